package tests

import (
	"fmt"
	"math"
	"slices"
	"testing"

	"loop.example/g01401/impl"
)

// endNumbers are integers at which rules of chapter 2 change, and some far from all of them.
var endNumbers = []int64{math.MinInt64, math.MinInt64 + 1, -1 << 32, -53, -1, 0, 1, 2, 3, 4, 5, 6, 7, 8, 9, 12, 13, 16, 20, 21, 51, 52, 53,
	64, 65, 4294967295, 4294967296, 2432902008176639999, 2432902008176640000, math.MaxInt64 - 1, math.MaxInt64}

func callsOfCards(deck []int64) string {
	turned, one := impl.TurnDeck(deck)
	out, two := impl.PerfectShuffle(deck, false)
	in, three := impl.PerfectShuffle(deck, true)
	monge, four := impl.MongeShuffle(deck)
	back, five := impl.BackDeck(deck)
	cycles, six := impl.CyclesOf(deck)
	order, seven := impl.OrderOf(deck)
	sign, eight := impl.SignOf(deck)
	rank, nine := impl.RankOf(deck)
	descents, ten := impl.DescentsOf(deck)
	runs, eleven := impl.RisingRuns(deck)
	return told(impl.IsDeck(deck), turned, one, out, two, in, three, monge, four, back, five, cycles, six, order, seven,
		sign, eight, rank, nine, descents, ten, runs, eleven)
}

func callsOfTwoLists(a, b []int64) string {
	over, one := impl.OverhandBy(a, b)
	joined, two := impl.JoinDecks(a, b)
	gathered, three := impl.GatherPiles([][]int64{a, b}, []int64{1, 0})
	other, four := impl.GatherPiles([][]int64{a}, b)
	at, five := impl.WordAt(a, b)
	return told(over, one, joined, two, gathered, three, other, four, at, five)
}

func callsOfListAndNumber(list []int64, n int64) string {
	cut, one := impl.CutDeck(list, n)
	piles, two := impl.DealPiles(list, n)
	paired, three := impl.IsPaired(list, n)
	ranks, four := impl.DecksShared(n, list, 2)
	shared, five := impl.DecksShared(3, list, n)
	return told(cut, one, piles, two, paired, three, ranks, four, shared, five)
}

func callsOfBools(deck []int64, late []bool) string {
	riffled, one := impl.RiffleBy(deck, late)
	before, two := impl.UnriffleBy(deck, late)
	return told(riffled, one, before, two)
}

func callsOfCount(n int64) string {
	deck, one := impl.NewDeck(n)
	out, two := impl.ShuffleOrder(n, false)
	in, three := impl.ShuffleOrder(n, true)
	descents, four := impl.DescentCounts(n)
	matches, five := impl.MatchCounts(n)
	under, six := impl.DownUnder(n)
	ring, seven := impl.BitRing(n)
	return told(deck, one, out, two, in, three, descents, four, matches, five, under, six, ring, seven)
}

func callsOfTwoCounts(n, k int64) string {
	deck, seed, one := impl.DrawDeck(n, k)
	ranked, two := impl.DeckOfRank(n, k)
	over, under, three := impl.FarFromEven(n, k)
	ways, four := impl.RiffleWays(n, k, 4)
	others, five := impl.RiffleWays(12, n, k)
	return told(deck, seed, one, ranked, two, over, under, three, ways, four, others, five)
}

// manyLists returns decks, and lists that are none.
func manyLists() [][]int64 {
	lists := slices.Concat(allDecks(1), allDecks(2), allDecks(3), badDecks, [][]int64{endNumbers, counted(52), counted(20), rings(20), rings(3, 5)})
	for _, x := range endNumbers {
		lists = append(lists, []int64{x}, []int64{0, x}, []int64{x, x, x})
	}
	return lists
}

func TestDeckCallsReturnEqualResults(t *testing.T) {
	lists := manyLists()
	for _, a := range lists {
		wantEqual(t, callsOfCards(a), callsOfCards(a), "calls of a list", a)
		for _, b := range lists {
			wantEqual(t, callsOfTwoLists(a, b), callsOfTwoLists(a, b), "calls of two lists", a, b)
		}
		for _, n := range endNumbers {
			wantEqual(t, callsOfListAndNumber(a, n), callsOfListAndNumber(a, n), "calls of a list and a number", a, n)
		}
		for n := range 5 {
			for _, late := range someBools(n) {
				wantEqual(t, callsOfBools(a, late), callsOfBools(a, late), "calls of bools", a, late)
			}
		}
	}
	for _, n := range endNumbers {
		wantEqual(t, callsOfCount(n), callsOfCount(n), "calls of a number", n)
		for _, k := range endNumbers {
			wantEqual(t, callsOfTwoCounts(n, k), callsOfTwoCounts(n, k), "calls of two numbers", n, k)
		}
	}
}

func TestNilAndEmptyListsAreOneValue(t *testing.T) {
	empty := []int64{}
	wantEqual(t, callsOfCards(nil), callsOfCards(empty), "calls of no cards")
	for _, list := range manyLists() {
		wantEqual(t, callsOfTwoLists(list, nil), callsOfTwoLists(list, empty), "calls with an empty list", list)
		wantEqual(t, callsOfTwoLists(nil, list), callsOfTwoLists(empty, list), "calls of an empty list", list)
		wantEqual(t, callsOfBools(list, nil), callsOfBools(list, []bool{}), "calls with no bools", list)
	}
	for _, n := range endNumbers {
		wantEqual(t, callsOfListAndNumber(nil, n), callsOfListAndNumber(empty, n), "calls of an empty list", n)
	}
}

func TestDeckListsAreNotModified(t *testing.T) {
	for _, list := range append(manyLists(), rings(4, 2), []int64{1, 0, 1, 1}) {
		cards, whole := spare(list, 77)
		before := slices.Clone(whole)
		callsOfCards(cards)
		for _, n := range []int64{0, 1, 2, 3, 8} {
			callsOfListAndNumber(cards, n)
		}
		for _, other := range [][]int64{nil, {0}, {1, 0}, {0, 2, 1}, {1, 2}, {2, 3, 1}, counted(6)} {
			others, wholeOthers := spare(other, 88)
			beforeOthers := slices.Clone(wholeOthers)
			callsOfTwoLists(cards, others)
			callsOfTwoLists(others, cards)
			wantEqual(t, slices.Equal(wholeOthers, beforeOthers), true, "the other list stays", list, other)
		}
		for _, late := range someBools(len(list) % 7) {
			bools, wholeBools := spare(late, true)
			beforeBools := slices.Clone(wholeBools)
			callsOfBools(cards, bools)
			wantEqual(t, slices.Equal(wholeBools, beforeBools), true, "bools stay", list, late)
		}
		wantEqual(t, slices.Equal(whole, before), true, "a list stays", list)
	}
	// Piles that stand one behind another in one memory.
	cards := []int64{3, 1, 2, 0, 9}
	piles := [][]int64{cards[:1], cards[1:3], cards[3:4]}
	gathered, ok := impl.GatherPiles(piles, []int64{0, 2, 1})
	wantList(t, gathered, ok, []int64{3, 0, 1, 2}, "GatherPiles of parts of one list")
	wantEqual(t, fmt.Sprint(cards, piles), "[3 1 2 0 9] [[3] [1 2] [0]]", "GatherPiles leaves its piles")
}

// overwrite fills a list and the unused capacity behind it.
func overwrite(list []int64) {
	list = list[:cap(list)]
	for i := range list {
		list[i] = -5
	}
}

func TestDeckResultsAreNewMemory(t *testing.T) {
	deck, sizes, late := []int64{3, 1, 0, 2}, []int64{4}, make([]bool, 4)
	calls := map[string]func() ([]int64, bool){
		"NewDeck":        func() ([]int64, bool) { return impl.NewDeck(4) },
		"TurnDeck":       func() ([]int64, bool) { return impl.TurnDeck(deck) },
		"CutDeck":        func() ([]int64, bool) { return impl.CutDeck(deck, 0) },
		"CutDeck at end": func() ([]int64, bool) { return impl.CutDeck(deck, 4) },
		"PerfectShuffle": func() ([]int64, bool) { return impl.PerfectShuffle(deck, false) },
		"RiffleBy":       func() ([]int64, bool) { return impl.RiffleBy(deck, late) },
		"UnriffleBy":     func() ([]int64, bool) { return impl.UnriffleBy(deck, late) },
		"OverhandBy":     func() ([]int64, bool) { return impl.OverhandBy(deck, sizes) },
		"MongeShuffle":   func() ([]int64, bool) { return impl.MongeShuffle(deck) },
		"JoinDecks":      func() ([]int64, bool) { return impl.JoinDecks(deck, deck) },
		"BackDeck":       func() ([]int64, bool) { return impl.BackDeck(deck) },
		"CyclesOf":       func() ([]int64, bool) { return impl.CyclesOf(deck) },
		"DeckOfRank":     func() ([]int64, bool) { return impl.DeckOfRank(4, 5) },
		"DescentCounts":  func() ([]int64, bool) { return impl.DescentCounts(4) },
		"MatchCounts":    func() ([]int64, bool) { return impl.MatchCounts(4) },
		"GatherPiles":    func() ([]int64, bool) { return impl.GatherPiles([][]int64{deck}, []int64{0}) },
		"DownUnder":      func() ([]int64, bool) { return impl.DownUnder(4) },
		"BitRing":        func() ([]int64, bool) { return impl.BitRing(4) },
		"DecksShared":    func() ([]int64, bool) { return impl.DecksShared(4, deck, 3) },
		"DrawDeck": func() ([]int64, bool) {
			drawn, _, ok := impl.DrawDeck(4, 9)
			return drawn, ok
		},
	}
	for name, call := range calls {
		first, ok := call()
		want := slices.Clone(first)
		overwrite(first)
		second, fine := call()
		wantList(t, second, ok && fine, want, name)
		wantList(t, deck, true, []int64{3, 1, 0, 2}, name+" shares nothing with its argument")
		wantList(t, sizes, true, []int64{4}, name+" shares nothing with its argument")
	}
	piles, ok := impl.DealPiles(deck, 3)
	wantEqual(t, ok && len(piles) == 3, true, "DealPiles", piles)
	for i := range piles {
		overwrite(piles[i])
		for j := i + 1; j < len(piles); j++ {
			wantEqual(t, slices.Contains(piles[j], -5), false, "DealPiles shares nothing", i, j)
		}
	}
	wantList(t, deck, true, []int64{3, 1, 0, 2}, "DealPiles shares nothing with its argument")
}

// wantSameAtOnce tells whether 64 calls, made at once by 1 to 8 workers each, all return the same list.
func wantSameAtOnce(t *testing.T, want []int64, call func(workers int64) ([]int64, bool), what string) {
	t.Helper()
	type result struct {
		list []int64
		ok   bool
	}
	results := make(chan result)
	for i := range int64(64) {
		go func() {
			list, ok := call(i%8 + 1)
			results <- result{list, ok}
		}()
	}
	for range 64 {
		r := <-results
		wantList(t, r.list, r.ok, want, what)
	}
}

func TestDecksAreSharedAtOnce(t *testing.T) {
	seeds := []int64{5, 6, 7, 8, 9}
	want, _ := impl.DecksShared(20, seeds, 1)
	wantSameAtOnce(t, want, func(workers int64) ([]int64, bool) { return impl.DecksShared(20, seeds, workers) }, "DecksShared at once")
}

func TestHugeListsFail(t *testing.T) {
	huge := make([]int64, 1<<22)
	piles := slices.Repeat([][]int64{huge}, 8)
	gathered, ok := impl.GatherPiles(piles, counted(8))
	wantNoList(t, gathered, ok, "GatherPiles of huge piles")
	wantEqual(t, callsOfTwoLists(huge, huge), callsOfTwoLists(nil, huge), "calls of huge lists")
	many := slices.Repeat([][]int64{{0}}, 1<<16)
	gathered, ok = impl.GatherPiles(many, counted(1<<16))
	wantNoList(t, gathered, ok, "GatherPiles of many piles")
}
