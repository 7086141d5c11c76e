package tests

import (
	"math"
	"math/rand"
	"slices"
	"testing"

	"loop.example/g01401/impl"
)

// badDecks are lists that are no decks.
var badDecks = [][]int64{
	nil, {}, {1}, {-1}, {0, 0}, {0, 2}, {1, 2}, {1, 1, 0}, {0, 1, 2, 4}, {0, -1}, {3, 2, 1, 0, 0},
	{0, math.MaxInt64}, {math.MinInt64, 0}, {1 << 32, 0}, counted(53), slices.Repeat([]int64{0}, 52), slices.Repeat([]int64{0}, 1000),
}

// counted returns 0, 1, and so on, n numbers.
func counted(n int64) []int64 {
	list := []int64{}
	for i := range n {
		list = append(list, i)
	}
	return list
}

// allDecks returns all decks of n cards, in the order of the first cards, then of the second ones, and so on.
func allDecks(n int64) [][]int64 {
	decks := [][]int64{{}}
	for range n {
		var longer [][]int64
		for _, deck := range decks {
			for card := range n {
				if !slices.Contains(deck, card) {
					longer = append(longer, append(slices.Clone(deck), card))
				}
			}
		}
		decks = longer
	}
	return decks
}

// someDecks returns all decks of few cards, and some of each other number.
func someDecks() [][]int64 {
	var decks [][]int64
	for n := int64(1); n <= 5; n++ {
		decks = append(decks, allDecks(n)...)
	}
	draws := rand.New(rand.NewSource(2))
	for n := int64(6); n <= impl.MaxDeck; n++ {
		deck := counted(n)
		decks = append(decks, slices.Clone(deck))
		for range 5 {
			draws.Shuffle(len(deck), func(i, j int) { deck[i], deck[j] = deck[j], deck[i] })
			decks = append(decks, slices.Clone(deck))
		}
	}
	return decks
}

// someBools returns lists of n bools: all false, all true, and drawn ones; for few, all there are.
func someBools(n int) [][]bool {
	lists := [][]bool{make([]bool, n), slices.Repeat([]bool{true}, n)}
	if n <= 5 {
		lists = nil
		for bits := range 1 << n {
			list := make([]bool, n)
			for i := range n {
				list[i] = bits>>i&1 == 1
			}
			lists = append(lists, list)
		}
		return lists
	}
	draws := rand.New(rand.NewSource(int64(n)))
	for range 4 {
		list := make([]bool, n)
		for i := range n {
			list[i] = draws.Intn(2) == 1
		}
		lists = append(lists, list)
	}
	return lists
}

// isWhole reports whether a list has n cards, each once.
func isWhole(list []int64, n int) bool {
	sorted := slices.Clone(list)
	slices.Sort(sorted)
	return slices.Equal(sorted, counted(int64(n)))
}

func wantWhole(t *testing.T, got []int64, ok bool, n int, what string, args ...any) {
	t.Helper()
	if !ok || !isWhole(got, n) {
		t.Errorf("%s %v: got %v, %v, want %d cards, each once", what, args, got, ok, n)
	}
}

func wantList(t *testing.T, got []int64, ok bool, want []int64, what string, args ...any) {
	t.Helper()
	if !ok || !slices.Equal(got, want) {
		t.Errorf("%s %v: got %v, %v, want %v, true", what, args, got, ok, want)
	}
}

func wantInteger(t *testing.T, got int64, ok bool, want int64, what string, args ...any) {
	t.Helper()
	if !ok || got != want {
		t.Errorf("%s %v: got %v, %v, want %v, true", what, args, got, ok, want)
	}
}

func wantNoList(t *testing.T, got []int64, ok bool, what string, args ...any) {
	t.Helper()
	if ok || len(got) != 0 {
		t.Errorf("%s %v: got %v, %v, want a failure", what, args, got, ok)
	}
}

func wantNoInteger(t *testing.T, got int64, ok bool, what string, args ...any) {
	t.Helper()
	if ok || got != 0 {
		t.Errorf("%s %v: got %v, %v, want a failure", what, args, got, ok)
	}
}
