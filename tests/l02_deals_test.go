package tests

import (
	"fmt"
	"math"
	"slices"
	"testing"

	"loop.example/g01401/impl"
)

func TestPilesAreDealt(t *testing.T) {
	cases := []struct {
		deck  []int64
		piles int64
		want  string
	}{
		{[]int64{0}, 1, "[[0]]"},
		{[]int64{0}, 3, "[[0] [] []]"},
		{[]int64{2, 0, 1}, 1, "[[1 0 2]]"},
		{[]int64{0, 1, 2, 3, 4}, 2, "[[4 2 0] [3 1]]"},
		{[]int64{3, 1, 4, 0, 2, 6, 5}, 3, "[[5 0 3] [2 1] [6 4]]"},
		{[]int64{1, 0}, 8, "[[1] [0] [] [] [] [] [] []]"},
	}
	for _, c := range cases {
		piles, ok := impl.DealPiles(c.deck, c.piles)
		wantEqual(t, ok && fmt.Sprint(piles) == c.want, true, "DealPiles", c.deck, c.piles, piles)
	}
	for _, n := range []int64{0, -1, 9, 1 << 32, math.MinInt64, math.MaxInt64} {
		piles, ok := impl.DealPiles([]int64{1, 0, 2}, n)
		wantEqual(t, !ok && len(piles) == 0, true, "DealPiles fails", n, piles)
	}
	for _, deck := range badDecks {
		piles, ok := impl.DealPiles(deck, 2)
		wantEqual(t, !ok && len(piles) == 0, true, "DealPiles fails", deck, piles)
	}
}

func TestPilesAreGathered(t *testing.T) {
	for _, deck := range someDecks() {
		for n := int64(1); n <= 8; n++ {
			piles, ok := impl.DealPiles(deck, n)
			wantEqual(t, ok && len(piles) == int(n), true, "DealPiles", deck, n)
			last := counted(n)
			slices.Reverse(last)
			orders := [][]int64{counted(n), last}
			if n <= 4 {
				orders = allDecks(n)
			}
			for _, order := range orders {
				var want []int64
				for _, pile := range order {
					want = append(want, piles[pile]...)
				}
				gathered, ok := impl.GatherPiles(piles, order)
				wantList(t, gathered, ok, want, "GatherPiles", piles, order)
				wantWhole(t, gathered, ok, len(deck), "GatherPiles", piles, order)
			}
		}
	}
	// Piles of one card lead back.
	gathered, ok := impl.GatherPiles([][]int64{{2}, {0}, {1}, {}}, []int64{3, 1, 2, 0})
	wantList(t, gathered, ok, []int64{0, 1, 2}, "GatherPiles")
	gathered, ok = impl.GatherPiles([][]int64{{5, 4}, {3}, nil, {1, 0, 2}}, []int64{3, 0, 2, 1})
	wantList(t, gathered, ok, []int64{1, 0, 2, 5, 4, 3}, "GatherPiles")
}

func TestGatherPilesFails(t *testing.T) {
	ones := [][]int64{{0}, {1}, {2}, {3}, {4}, {5}, {6}, {7}, {8}}
	gathered, ok := impl.GatherPiles(ones[:8], counted(8))
	wantList(t, gathered, ok, counted(8), "GatherPiles of the most piles")
	cases := []struct {
		piles [][]int64
		order []int64
	}{
		{nil, nil}, {[][]int64{}, []int64{}}, {ones, counted(9)}, {[][]int64{{}}, []int64{0}}, {[][]int64{nil, {}}, []int64{0, 1}},
		{ones[:2], nil}, {ones[:2], []int64{0}}, {ones[:2], []int64{0, 1, 2}}, {ones[:2], []int64{0, 0}}, {ones[:2], []int64{1, 1}},
		{ones[:2], []int64{1, 2}}, {ones[:2], []int64{-1, 0}}, {ones[:2], []int64{0, math.MaxInt64}}, {ones[:2], []int64{math.MinInt64, 1}},
		{[][]int64{{0}, {0}}, []int64{0, 1}}, {[][]int64{{0}, {2}}, []int64{0, 1}}, {[][]int64{{1}, {2}}, []int64{0, 1}}, {[][]int64{{0, 1}, {-1}}, []int64{1, 0}},
		{[][]int64{counted(53)}, []int64{0}}, {[][]int64{counted(52), {52}}, []int64{0, 1}}, {[][]int64{counted(1000), {}}, []int64{0, 1}},
	}
	for _, c := range cases {
		gathered, ok := impl.GatherPiles(c.piles, c.order)
		wantNoList(t, gathered, ok, "GatherPiles", c.piles, c.order)
	}
}

func TestCardsAreDealtDownAndUnder(t *testing.T) {
	// These are computed by another program.
	cases := [][]int64{{0}, {0, 1}, {0, 2, 1}, {0, 2, 1, 3}, {0, 2, 4, 3, 1}, {0, 2, 4, 6, 1, 5, 3, 7}, {0, 2, 4, 6, 8, 10, 12, 3, 7, 11, 5, 1, 9},
		{0, 2, 4, 6, 8, 10, 12, 14, 16, 18, 20, 22, 24, 26, 28, 30, 32, 34, 36, 38, 40, 42, 44, 46, 48, 50, 1, 5, 9, 13, 17, 21, 25, 29, 33, 37, 41, 45, 49, 3, 11, 19, 27, 35, 43, 51, 15, 31, 47, 23, 7, 39}}
	for _, want := range cases {
		dealt, ok := impl.DownUnder(int64(len(want)))
		wantList(t, dealt, ok, want, "DownUnder", len(want))
	}
	for n := int64(1); n <= 52; n++ {
		dealt, ok := impl.DownUnder(n)
		wantWhole(t, dealt, ok, int(n), "DownUnder", n)
	}
	for _, n := range []int64{0, -1, 53, 1 << 32, math.MinInt64, math.MaxInt64} {
		dealt, ok := impl.DownUnder(n)
		wantNoList(t, dealt, ok, "DownUnder", n)
	}
}

// wordsOf returns the words of long bits of a ring, round and round, as numbers.
func wordsOf(ring []int64, long int) []int {
	var words []int
	for from := range ring {
		word := 0
		for i := range long {
			word = 2*word + int(ring[(from+i)%len(ring)])
		}
		words = append(words, word)
	}
	return words
}

func hasEachWord(ring []int64, long int) bool {
	words := wordsOf(ring, long)
	slices.Sort(words)
	for i, word := range words {
		if i != word {
			return false
		}
	}
	return len(words) == 1<<long
}

func TestRingsHaveEachWord(t *testing.T) {
	// These are computed by another program.
	texts := []string{"01", "0011", "00010111", "0000100110101111", "00000100011001010011101011011111",
		"0000001000011000101000111001001011001101001111010101110110111111"}
	for i, text := range texts {
		ring, ok := impl.BitRing(int64(i) + 1)
		var want []int64
		for _, r := range text {
			want = append(want, int64(r-'0'))
		}
		wantList(t, ring, ok, want, "BitRing", i+1)
		wantEqual(t, hasEachWord(ring, i+1), true, "BitRing has each word", i+1)
	}
	for long := 1; long <= 4; long++ {
		size := 1 << long
		first := -1
		for bits := range 1 << size {
			if hasEachWord(bitsOf(bits, size), long) {
				first = bits
				break
			}
		}
		ring, ok := impl.BitRing(int64(long))
		wantList(t, ring, ok, bitsOf(first, size), "BitRing is the first one", long)
	}
	for _, long := range []int64{0, -1, 7, 64, 1 << 32, math.MinInt64, math.MaxInt64} {
		ring, ok := impl.BitRing(long)
		wantNoList(t, ring, ok, "BitRing", long)
	}
}

// bitsOf returns the last size bits of a number, the greatest one first.
func bitsOf(n, size int) []int64 {
	list := make([]int64, size)
	for i := range size {
		list[i] = int64(n >> (size - 1 - i) & 1)
	}
	return list
}

func TestWordsAreFound(t *testing.T) {
	ring, _ := impl.BitRing(6)
	for i, word := range wordsOf(ring, 6) {
		at, ok := impl.WordAt(ring, bitsOf(word, 6))
		wantInteger(t, at, ok, int64(i), "WordAt", word)
	}
	cases := []struct {
		ring, word []int64
		want       int64
	}{
		{[]int64{0}, []int64{0}, 0},
		{[]int64{1, 1}, []int64{1}, 0},
		{[]int64{0, 1}, []int64{1}, 1},
		{[]int64{0, 0, 1, 1}, []int64{1, 0}, 3},
		{[]int64{0, 0, 1, 1}, []int64{0, 1}, 1},
		{[]int64{0, 0, 1, 1}, []int64{1, 0, 0, 1}, 3},
		{[]int64{1, 0, 1, 0, 1}, []int64{1, 1, 0}, 4},
		{[]int64{1, 0, 1, 0}, []int64{1, 0}, 0},
		{[]int64{0, 1, 1, 0, 0, 1}, []int64{1, 0, 1, 1, 0, 0}, 5},
		{slices.Concat(make([]int64, 63), []int64{1}), []int64{0, 1, 0, 0, 0, 0}, 62},
	}
	for _, c := range cases {
		at, ok := impl.WordAt(c.ring, c.word)
		wantInteger(t, at, ok, c.want, "WordAt", c.ring, c.word)
	}
	bad := [][2][]int64{
		{{0, 0}, {1}}, {{0}, {1}}, {{0, 0, 1, 1}, {1, 0, 1}}, {{0, 1, 1}, {0, 0}}, {{0, 0, 1}, {0, 0, 0}},
		{nil, nil}, {{0}, nil}, {nil, {0}}, {{0}, {0, 0}}, {{0, 1}, {0, 1, 0}}, {{0, 1, 0, 1, 0, 1, 0}, {0, 1, 0, 1, 0, 1, 0}},
		{make([]int64, 65), {0}}, {{0, 2}, {0}}, {{0, -1}, {0}}, {{0, 1, 2}, {2}}, {{0, 1}, {2}}, {{0, 1}, {-1}}, {{0, 1, math.MaxInt64}, {1}}, {{0, 1}, {math.MinInt64}},
	}
	for _, b := range bad {
		at, ok := impl.WordAt(b[0], b[1])
		wantNoInteger(t, at, ok, "WordAt", b)
	}
}

func TestPairsAreTold(t *testing.T) {
	cases := []struct {
		deck  []int64
		kinds int64
		want  bool
	}{
		{[]int64{0}, 1, true},
		{[]int64{1, 0}, 2, true},
		{[]int64{3, 0, 2, 1}, 1, true},
		{[]int64{3, 0, 2, 1}, 4, true},
		{[]int64{0, 3, 2, 1}, 2, true},
		{[]int64{1, 0, 2, 3}, 2, true}, // the second and the third one are of one kind, but not of one part
		{[]int64{0, 2, 1, 3}, 2, false},
		{[]int64{0, 1, 4, 3, 5, 2}, 2, true},
		{[]int64{0, 1, 4, 3, 5, 2}, 3, false},
		{[]int64{2, 3, 1, 0, 5, 4}, 3, true},
		{[]int64{0, 1, 2, 3, 5, 4, 6, 8, 7}, 3, true},
		{[]int64{0, 1, 2, 3, 5, 4, 6, 8, 7}, 9, true},
		{[]int64{0, 1, 2, 3, 5, 8, 6, 4, 7}, 3, false},
		{[]int64{0, 1, 2, 4, 3, 5, 8, 6, 7}, 3, true},
	}
	for _, c := range cases {
		paired, ok := impl.IsPaired(c.deck, c.kinds)
		wantEqual(t, ok && paired == c.want, true, "IsPaired", c.deck, c.kinds, paired, ok)
	}
	for _, kinds := range []int64{0, -1, -2, 4, 5, 7, 12, 1 << 32, math.MinInt64, math.MaxInt64} {
		paired, ok := impl.IsPaired(counted(6), kinds)
		wantEqual(t, !ok && !paired, true, "IsPaired fails", kinds)
	}
	for _, deck := range badDecks {
		paired, ok := impl.IsPaired(deck, 1)
		wantEqual(t, !ok && !paired, true, "IsPaired fails", deck)
	}
}

// TestRifflesKeepPairs riffles a deck whose lower part has been turned, which keeps all kinds in each part.
func TestRifflesKeepPairs(t *testing.T) {
	for _, kinds := range []int64{1, 2, 3, 4, 6, 12} {
		for bits := range 1 << 12 {
			late := make([]bool, 12)
			upper := 12
			for i := range late {
				late[i] = bits>>i&1 == 1
				if late[i] {
					upper--
				}
			}
			deck := counted(12)
			slices.Reverse(deck[upper:])
			riffled, _ := impl.RiffleBy(deck, late)
			paired, ok := impl.IsPaired(riffled, kinds)
			wantEqual(t, ok && paired, true, "IsPaired behind a riffle", riffled, kinds)
		}
	}
}

func TestDecksAreShared(t *testing.T) {
	// The ranks are computed by another program.
	seeds := []int64{0, 1, 2, 42, 4294967295, 2147483648}
	cases := map[int64][]int64{
		1:  {0, 0, 0, 0, 0, 0},
		3:  {3, 3, 3, 3, 3, 0},
		7:  {321, 4697, 4891, 3358, 3445, 4728},
		12: {29176193, 370731503, 345984595, 166061386, 402205405, 409471969},
		20: {140456050094283545, 2111877259836058343, 2130543931532225131, 922813745646723202, 207312105194429034, 2147019834547352233},
	}
	for n, want := range cases {
		for workers := int64(1); workers <= 8; workers++ {
			ranks, ok := impl.DecksShared(n, seeds, workers)
			wantList(t, ranks, ok, want, "DecksShared", n, workers)
			one, ok := impl.DecksShared(n, seeds[2:3], workers)
			wantList(t, one, ok, want[2:3], "DecksShared of one seed", n, workers)
		}
	}
	many := make([]int64, 16)
	var want []int64
	for i := range many {
		many[i] = int64(i*i) * 12345678
		deck, _, _ := impl.DrawDeck(20, many[i])
		rank, _ := impl.RankOf(deck)
		want = append(want, rank)
	}
	for range 50 {
		for workers := int64(1); workers <= 8; workers++ {
			ranks, ok := impl.DecksShared(20, many, workers)
			wantList(t, ranks, ok, want, "DecksShared of the most seeds", workers)
		}
	}
}

func TestDecksSharedFails(t *testing.T) {
	cases := []struct {
		n       int64
		seeds   []int64
		workers int64
	}{
		{0, []int64{0}, 1}, {-1, []int64{0}, 1}, {21, []int64{0}, 1}, {52, []int64{0}, 2}, {53, []int64{0}, 2}, {math.MinInt64, []int64{0}, 1}, {math.MaxInt64, []int64{0}, 1},
		{3, nil, 1}, {3, []int64{}, 1}, {3, make([]int64, 17), 1}, {3, []int64{-1}, 1}, {3, []int64{0, 1, 4294967296, 2}, 2}, {3, []int64{0, math.MinInt64}, 8}, {3, []int64{math.MaxInt64, 0}, 8},
		{3, []int64{0}, 0}, {3, []int64{0}, -1}, {3, []int64{0}, 9}, {3, []int64{0}, 1 << 32}, {3, []int64{0}, math.MinInt64}, {3, []int64{0}, math.MaxInt64},
	}
	for _, c := range cases {
		ranks, ok := impl.DecksShared(c.n, c.seeds, c.workers)
		wantNoList(t, ranks, ok, "DecksShared", c.n, c.seeds, c.workers)
	}
}
