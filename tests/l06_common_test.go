package tests

import (
	"math"
	"math/rand"
	"slices"

	"loop.example/g01401/impl"
)

// badPairs are two lists that are no hands of tricks, each for one reason.
var badPairs = [][2][]int64{
	{{0}, nil}, {nil, {0}}, {{0, 1}, {2}}, {{0}, {1, 2}}, {{0}, {0}}, {{0, 0}, {1, 2}}, {{1, 2}, {0, 0}}, {{0, 1}, {2, 1}}, {{5, 1, 2}, {3, 4, 5}},
	{{-1}, {0}}, {{0}, {-1}}, {{52}, {0}}, {{0}, {52}}, {{0, 1, 2, 3, 4, 5, 6}, {7, 8, 9, 10, 11, 12, 13}}, {counted(26), counted(52)[26:]},
	{{math.MinInt64}, {0}}, {{0}, {math.MaxInt64}}, {{1 << 32}, {1}}, {{64}, {1}}, {make([]int64, 1000), make([]int64, 1000)},
}

// badTrumps are no suits, and not -1.
var badTrumps = []int64{-2, 4, 13, math.MinInt64, math.MaxInt64, 1 << 32}

// badBoards have too few places, or too many.
var badBoards = [][]bool{nil, {}, make([]bool, 15), slices.Repeat([]bool{true}, 15), make([]bool, 1000), make([]bool, 1<<20)}

// badTileHands are no hands of tiles, each for one reason.
var badTileHands = [][]int64{
	nil, {}, {2}, make([]int64, 8), make([]int64, 10), {2, 0, 0, 0, 0, 0, 0, 0}, {2, 0, 0, 0, 0, 0, 0, 0, 0, 0}, make([]int64, 1000),
	{5, 0, 0, 0, 0, 0, 0, 0, 0}, {0, 0, 0, 0, 0, 0, 0, 0, 5}, {-1, 0, 0, 0, 0, 0, 0, 0, 0}, {3, 0, 0, 0, 0, 0, 0, 0, -1}, {4, 4, 4, 3, 0, 0, 0, 0, 0},
	{2, 2, 2, 2, 2, 2, 2, 2, 1}, {4, 4, 4, 4, 4, 4, 4, 4, 4}, {math.MaxInt64, 0, 0, 0, 0, 0, 0, 0, 0}, {0, math.MinInt64, 2, 0, 0, 0, 0, 0, 0},
	{math.MaxInt64, math.MaxInt64, 4, 0, 0, 0, 0, 0, 0}, {1 << 32, 2, 0, 0, 0, 0, 0, 0, 0}, {5, -3, 0, 0, 0, 0, 0, 0, 0},
}

func tilesOf(numbers ...int64) []impl.Tile {
	var tiles []impl.Tile
	for pair := range slices.Chunk(numbers, 2) {
		tiles = append(tiles, impl.Tile{A: pair[0], B: pair[1]})
	}
	return tiles
}

// badTiles returns lists that are no tiles.
func badTiles() [][]impl.Tile {
	lists := [][]impl.Tile{nil, {}, make([]impl.Tile, 9), make([]impl.Tile, 1000)}
	for _, bad := range tilesOf(-1, 0, 0, -1, 7, 0, 0, 7, math.MinInt64, 6, 6, math.MaxInt64, 1<<32, 0) {
		lists = append(lists, []impl.Tile{bad}, append(tilesOf(0, 1, 1, 2), bad), slices.Insert(make([]impl.Tile, 7), 3, bad))
	}
	return lists
}

// badMoves are not how many things can be taken.
var badMoves = [][]int64{
	nil, {}, {0}, {-1}, {201}, {1, 1}, {2, 1}, {1, 3, 2}, {0, 1}, {-1, 1}, {1, 201}, {1, 2, 3, 4, 5, 6, 7, 8, 9}, {1, 2, 3, 3},
	{math.MinInt64}, {math.MaxInt64}, {1, math.MaxInt64}, {math.MinInt64, 1}, {1 << 32}, counted(201)[1:], make([]int64, 1000),
}

// deal draws two hands of n cards of so many ranks and suits.
func deal(draws *rand.Rand, n, ranks, suits int) ([]int64, []int64) {
	var cards []int64
	for _, card := range draws.Perm(ranks * suits)[:2*n] {
		cards = append(cards, int64(card/ranks*13+card%ranks))
	}
	return cards[:n], cards[n:]
}

// drawTileHand draws a hand of count tiles, of neighbouring kinds where they are few.
func drawTileHand(draws *rand.Rand, count int) []int64 {
	counts := make([]int64, 9)
	first := draws.Intn(6)
	last := max(first+count/4, first+draws.Intn(9-first))
	for count > 0 {
		kind := min(first+draws.Intn(last-first+1), 8)
		if draws.Intn(4) == 0 {
			kind = draws.Intn(9)
		}
		if counts[kind] < 4 {
			counts[kind]++
			count--
		}
	}
	return counts
}

// drawTiles draws tiles with numbers less than different.
func drawTiles(draws *rand.Rand, count int, different int64) []impl.Tile {
	var numbers []int64
	for range 2 * count {
		numbers = append(numbers, draws.Int63n(different))
	}
	return tilesOf(numbers...)
}

// drawMoves draws how many things can be taken, at most most.
func drawMoves(draws *rand.Rand, count int, most int) []int64 {
	var moves []int64
	for _, move := range draws.Perm(most)[:count] {
		moves = append(moves, int64(move)+1)
	}
	slices.Sort(moves)
	return moves
}
