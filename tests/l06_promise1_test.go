package tests

import (
	"fmt"
	"math"
	"slices"
	"testing"

	"loop.example/g01401/impl"
)

// gameNumbers are integers at which rules of chapter 6 change, and some far from all of them.
var gameNumbers = []int64{math.MinInt64, -1 << 32, -2, -1, 0, 1, 2, 3, 4, 5, 6, 8, 9, 12, 13, 14, 26, 51, 52, 60, 61, 200, 201, 1 << 32, math.MaxInt64}

func callsOfHands(one, two []int64, n int64) string {
	best, a := impl.TrickBest(one, two, true, n)
	card, b := impl.TrickCard(one, two, false, n)
	line, c := impl.TrickLine(one, two, false, n)
	ways, d := impl.CountLines(one, two)
	plays, e := impl.LegalPlays(one, n)
	others, f := impl.LegalPlays(two, n)
	shared, g := impl.BestsShared([][]int64{one, {12, 0}}, [][]int64{two, {11, 1}}, n, 3)
	by, h := impl.BestsShared([][]int64{one}, [][]int64{two}, -1, n)
	return told(impl.AreHands(one, two), best, a, card, b, line, c, ways, d, plays, e, others, f, shared, g, by, h)
}

func callsOfSuits(n, k int64) string {
	wins, a := impl.WinsTrick(n, k, 2)
	trumped, b := impl.WinsTrick(n, 40, k)
	lost, c := impl.WinsTrick(3, n, k)
	values, d := impl.TakeValues([]int64{n, k}, 20)
	one, e := impl.TakeValues([]int64{n}, k)
	pins, f := impl.SplitValues(n)
	return told(wins, a, trumped, b, lost, c, values, d, one, e, pins, f)
}

func callsOfBoard(board []bool) string {
	moves, a := impl.PegMoves(board)
	least, b := impl.PegLeast(board)
	line, c := impl.PegLine(board)
	reach, d := impl.PegReach(board)
	return told(moves, a, least, b, line, c, reach, d)
}

func callsOfList(list []int64, n int64) string {
	turned, all, a := impl.ClockDeal(list, n)
	ways, b := impl.FullWays(list)
	waits, c := impl.WaitsOf(list)
	far, d := impl.FarFromFull(list)
	kind, most, e := impl.BestDiscard(list)
	values, f := impl.TakeValues(list, n)
	heap, take, g := impl.HeapMove(list, []int64{1, 2, 3})
	first, by, h := impl.HeapMove([]int64{3, 5}, list)
	return told(turned, all, a, impl.IsTileHand(list), ways, b, waits, c, far, d, kind, most, e, values, f, heap, take, g, first, by, h)
}

func callsOfTiles(tiles []impl.Tile) string {
	line, a := impl.LongestLine(tiles)
	tour, b := impl.HasTour(tiles, false)
	ring, c := impl.HasTour(tiles, true)
	return told(impl.AreTiles(tiles), impl.SameTiles(tiles, tiles), impl.SameTiles(tiles, tilesOf(0, 1)), line, a, tour, b, ring, c)
}

// somePairs returns hands of tricks, and lists that are none.
func somePairs() [][2][]int64 {
	return append(slices.Clone(badPairs), [2][]int64{}, [2][]int64{{12, 0}, {11, 1}}, [2][]int64{{24, 38, 37, 25, 23}, {12, 11, 36, 22, 35}},
		[2][]int64{{5, 7, 10, 33, 25, 6}, {8, 32, 38, 22, 9, 12}})
}

func someBoards() [][]bool {
	return append(slices.Clone(badBoards), boardOf("110"), boardOf("0"), boardOf("11011101111011"), boardOf("1011010"))
}

// someLists returns decks, hands of tiles, moves and heaps, and lists that are none.
func someLists() [][]int64 {
	return slices.Concat(badTileHands, badMoves, badDecks, [][]int64{counted(52), {1, 3, 0, 2}, {3, 1, 1, 1, 2, 0, 0, 0, 0}, {1, 1, 1, 1, 1, 0, 0, 0, 0},
		{2, 1, 0, 2, 0, 3, 1, 2, 3}, {1, 3, 8, 20, 57, 100, 133, 200}, {5, 6, 0, 200}, gameNumbers})
}

func someTiles() [][]impl.Tile {
	return append(badTiles(), tilesOf(0, 1, 2, 1, 3, 3), tilesOf(0, 1, 1, 2, 2, 0), make([]impl.Tile, 8))
}

func TestGameCallsReturnEqualResults(t *testing.T) {
	for _, n := range gameNumbers {
		for _, p := range somePairs() {
			wantEqual(t, callsOfHands(p[0], p[1], n), callsOfHands(slices.Clone(p[0]), slices.Clone(p[1]), n), "calls of hands", p, n)
		}
		for _, k := range gameNumbers {
			wantEqual(t, callsOfSuits(n, k), callsOfSuits(n, k), "calls of two numbers", n, k)
		}
		for _, list := range someLists() {
			wantEqual(t, callsOfList(list, n), callsOfList(slices.Clone(list), n), "calls of a list", list, n)
		}
	}
	for _, board := range someBoards() {
		wantEqual(t, callsOfBoard(board), callsOfBoard(slices.Clone(board)), "calls of a board", len(board))
	}
	for _, tiles := range someTiles() {
		wantEqual(t, callsOfTiles(tiles), callsOfTiles(slices.Clone(tiles)), "calls of tiles", tiles)
	}
}

func TestNilAndEmptyGamesAreOneValue(t *testing.T) {
	empty := []int64{}
	for _, n := range gameNumbers {
		wantEqual(t, callsOfHands(nil, nil, n), callsOfHands(empty, empty, n), "calls of empty hands", n)
		wantEqual(t, callsOfHands([]int64{3}, nil, n), callsOfHands([]int64{3}, empty, n), "calls of one empty hand", n)
		wantEqual(t, callsOfList(nil, n), callsOfList(empty, n), "calls of an empty list", n)
	}
	wantEqual(t, callsOfBoard(nil), callsOfBoard([]bool{}), "calls of an empty board")
	wantEqual(t, callsOfTiles(nil), callsOfTiles([]impl.Tile{}), "calls of no tiles")
}

func TestGamesAreNotModified(t *testing.T) {
	for _, p := range somePairs() {
		one, wholeOne := spare(p[0], 7)
		two, wholeTwo := spare(p[1], 8)
		before := fmt.Sprint(wholeOne, wholeTwo)
		for _, n := range []int64{-1, 0, 3, 5} {
			callsOfHands(one, two, n)
		}
		wantEqual(t, fmt.Sprint(wholeOne, wholeTwo), before, "hands stay", p)
	}
	// Hands that stand one behind the other in one memory.
	cards := []int64{33, 5, 25, 6, 10, 7, 8, 32, 38, 22, 9, 12}
	before := slices.Clone(cards)
	callsOfHands(cards[:6], cards[6:], 1)
	callsOfHands(cards[:4], cards[4:8], -1)
	wantEqual(t, slices.Equal(cards, before), true, "hands in one memory stay", cards)
	for _, board := range someBoards() {
		pegs, whole := spare(board, true)
		kept := slices.Clone(whole)
		callsOfBoard(pegs)
		wantEqual(t, slices.Equal(whole, kept), true, "boards stay", len(board))
	}
	for _, list := range someLists() {
		numbers, whole := spare(list, 1)
		kept := slices.Clone(whole)
		for _, n := range gameNumbers {
			callsOfList(numbers, n)
		}
		wantEqual(t, slices.Equal(whole, kept), true, "lists stay", list)
	}
	for _, list := range someTiles() {
		tiles, whole := spare(list, impl.Tile{A: 1, B: 1})
		kept := slices.Clone(whole)
		callsOfTiles(tiles)
		wantEqual(t, slices.Equal(whole, kept), true, "tiles stay", list)
	}
}

func TestGameResultsAreNewMemory(t *testing.T) {
	one, two, other, hands := []int64{12, 0}, []int64{11, 1}, []int64{0, 13}, [][]int64{{12, 0}}
	board, waiting, moves, tiles := boardOf("1101"), []int64{2, 1, 1, 0, 0, 0, 0, 0, 0}, []int64{1, 2, 3}, tilesOf(0, 1, 2, 1)
	calls := map[string]func() ([]int64, bool){
		"LegalPlays":         func() ([]int64, bool) { return impl.LegalPlays(one, 5) },
		"LegalPlays of any":  func() ([]int64, bool) { return impl.LegalPlays(other, 51) },
		"LegalPlays of some": func() ([]int64, bool) { return impl.LegalPlays(other, 14) },
		"TrickLine":          func() ([]int64, bool) { return impl.TrickLine(one, two, true, -1) },
		"PegMoves":           func() ([]int64, bool) { return impl.PegMoves(board) },
		"PegLine":            func() ([]int64, bool) { return impl.PegLine(board) },
		"WaitsOf":            func() ([]int64, bool) { return impl.WaitsOf(waiting) },
		"LongestLine":        func() ([]int64, bool) { return impl.LongestLine(tiles) },
		"TakeValues":         func() ([]int64, bool) { return impl.TakeValues(moves, 9) },
		"SplitValues":        func() ([]int64, bool) { return impl.SplitValues(9) },
		"BestsShared":        func() ([]int64, bool) { return impl.BestsShared(hands, [][]int64{two}, -1, 2) },
	}
	before := fmt.Sprint(one, two, other, hands, board, waiting, moves, tiles)
	for name, call := range calls {
		first, ok := call()
		want := slices.Clone(first)
		wantEqual(t, ok && len(first) > 0, true, name)
		overwrite(first)
		second, ok := call()
		wantList(t, second, ok, want, name+" again")
		wantEqual(t, fmt.Sprint(one, two, other, hands, board, waiting, moves, tiles), before, name+" shares nothing with its arguments")
	}
}

func TestGamesAreSharedAtOnce(t *testing.T) {
	ones, twos := [][]int64{{12, 0}, {5, 7, 10, 33, 25}, nil, {0}}, [][]int64{{11, 1}, {8, 32, 38, 22, 9}, nil, {51}}
	want, _ := impl.BestsShared(ones, twos, 1, 1)
	wantEqual(t, len(want), 4, "BestsShared by one worker")
	wantSameAtOnce(t, want, func(workers int64) ([]int64, bool) { return impl.BestsShared(ones, twos, 1, workers) }, "BestsShared at once")
}

func TestHugeGamesFail(t *testing.T) {
	huge := make([]int64, 1<<22)
	for _, n := range []int64{-1, 1, 5} {
		wantEqual(t, callsOfHands(huge, huge, n), callsOfHands(counted(7), counted(7), n), "calls of huge hands", n)
		wantEqual(t, callsOfList(huge, n), callsOfList(make([]int64, 99), n), "calls of a huge list", n)
	}
	wantEqual(t, callsOfBoard(make([]bool, 1<<22)), callsOfBoard(nil), "calls of a huge board")
	tiles := make([]impl.Tile, 1<<20)
	wantEqual(t, callsOfTiles(tiles), callsOfTiles(make([]impl.Tile, 9)), "calls of many tiles")
	wantEqual(t, impl.SameTiles(tiles, tiles[1:]), false, "SameTiles of many tiles")
	bests, ok := impl.BestsShared(make([][]int64, 1<<20), make([][]int64, 1<<20), -1, 8)
	wantNoList(t, bests, ok, "BestsShared of many hands")
}
