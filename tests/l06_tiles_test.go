package tests

import (
	"math/rand"
	"slices"
	"testing"

	"loop.example/g01401/impl"
)

// handKey is a hand of tiles as a key.
type handKey = [9]int64

// fullHands returns in how many ways each full hand is made, by taking each pair and each choice of groups.
func fullHands() map[handKey]int64 {
	var groups []handKey
	for kind := range 9 {
		var three handKey
		three[kind] = 3
		groups = append(groups, three)
		if kind < 7 {
			var row handKey
			row[kind], row[kind+1], row[kind+2] = 1, 1, 1
			groups = append(groups, row)
		}
	}
	ways := map[handKey]int64{}
	var more func(hand handKey, from, count int)
	more = func(hand handKey, from, count int) {
		if slices.Max(hand[:]) > 4 {
			return
		}
		ways[hand]++
		for i := from; i < len(groups) && count < 4; i++ {
			next := hand
			for kind, tiles := range groups[i] {
				next[kind] += tiles
			}
			more(next, i, count+1)
		}
	}
	for kind := range 9 {
		var pair handKey
		pair[kind] = 2
		more(pair, 0, 0)
	}
	return ways
}

// allTileHands calls look with all hands of count tiles.
func allTileHands(count int64, look func(hand []int64)) {
	var more func(hand []int64, left int64)
	more = func(hand []int64, left int64) {
		if len(hand) == 9 {
			if left == 0 {
				look(hand)
			}
			return
		}
		for tiles := range min(left, 4) + 1 {
			more(append(hand, tiles), left-tiles)
		}
	}
	more(make([]int64, 0, 9), count)
}

// plainWaits returns the kinds that make a hand one of the full ones.
func plainWaits(full map[handKey]int64, hand []int64) []int64 {
	var waits []int64
	for kind := range 9 {
		more := handKey(hand)
		more[kind]++
		if full[more] > 0 {
			waits = append(waits, int64(kind))
		}
	}
	return waits
}

// plainDiscard tries all kinds.
func plainDiscard(full map[handKey]int64, hand []int64) (int64, int64) {
	best, most := int64(-1), int64(-1)
	for kind := range 9 {
		less := slices.Clone(hand)
		less[kind]--
		if less[kind] < 0 {
			continue
		}
		if waits := int64(len(plainWaits(full, less))); waits > most {
			best, most = int64(kind), waits
		}
	}
	return best, most
}

func TestTileHandsAreKnown(t *testing.T) {
	for _, counts := range [][]int64{make([]int64, 9), {3, 1, 1, 1, 2, 0, 0, 0, 0}, {4, 4, 4, 2, 0, 0, 0, 0, 0}, {0, 0, 0, 0, 0, 0, 0, 0, 4}, {2, 2, 2, 2, 2, 2, 2, 0, 0}} {
		wantEqual(t, impl.IsTileHand(counts), true, "IsTileHand", counts)
	}
	for _, counts := range badTileHands {
		wantEqual(t, impl.IsTileHand(counts), false, "IsTileHand", counts)
		ways, ok := impl.FullWays(counts)
		wantNoInteger(t, ways, ok, "FullWays", counts)
		waits, ok := impl.WaitsOf(counts)
		wantNoList(t, waits, ok, "WaitsOf", counts)
		far, ok := impl.FarFromFull(counts)
		wantNoInteger(t, far, ok, "FarFromFull", counts)
		kind, most, ok := impl.BestDiscard(counts)
		wantEqual(t, ok || kind != 0 || most != 0, false, "BestDiscard", counts)
	}
}

func TestHandsAreFull(t *testing.T) {
	full := fullHands()
	found := int64(0)
	for count := range int64(15) {
		allTileHands(count, func(hand []int64) {
			if count > 8 && hand[0] > 1 && full[handKey(hand)] == 0 {
				return // some of the great hands are enough
			}
			ways, ok := impl.FullWays(hand)
			wantInteger(t, ways, ok, full[handKey(hand)], "FullWays", hand)
			found += ways
		})
	}
	wantEqual(t, found, 20566, "FullWays of all hands")
	cases := []struct {
		counts []int64
		want   int64
	}{
		{[]int64{3, 1, 1, 1, 2, 0, 0, 0, 0}, 1},
		{[]int64{3, 3, 3, 2, 0, 0, 0, 0, 0}, 3},
		{make([]int64, 9), 0},
		{[]int64{0, 0, 0, 0, 0, 0, 0, 0, 2}, 1},
		{[]int64{0, 0, 0, 0, 0, 0, 0, 1, 1}, 0},
		{[]int64{3, 0, 0, 0, 0, 0, 0, 0, 0}, 0},
		{[]int64{4, 0, 0, 0, 0, 0, 0, 0, 0}, 0},
		{[]int64{4, 1, 1, 0, 0, 0, 0, 0, 0}, 0},
		{[]int64{4, 1, 0, 0, 0, 0, 0, 0, 0}, 0},
		{[]int64{3, 0, 0, 0, 0, 0, 0, 0, 2}, 1},
		{[]int64{1, 0, 0, 0, 0, 0, 2, 1, 1}, 0},
		{[]int64{0, 0, 0, 0, 0, 0, 3, 1, 1}, 1},
		{[]int64{0, 0, 0, 0, 0, 0, 1, 1, 3}, 1},
		{[]int64{1, 0, 0, 0, 0, 0, 0, 1, 3}, 0}, // no row goes round
		{[]int64{0, 0, 0, 0, 0, 3, 4, 4, 3}, 4},
		{[]int64{2, 3, 3, 3, 3, 0, 0, 0, 0}, 4},
		{[]int64{2, 2, 2, 2, 2, 2, 2, 0, 0}, 3},
	}
	for _, c := range cases {
		ways, ok := impl.FullWays(c.counts)
		wantInteger(t, ways, ok, c.want, "FullWays", c.counts)
		turned := slices.Clone(c.counts)
		slices.Reverse(turned)
		ways, ok = impl.FullWays(turned)
		wantInteger(t, ways, ok, c.want, "FullWays turned", turned)
	}
}

func TestTilesAreAwaited(t *testing.T) {
	full := fullHands()
	for count, sums := range map[int64][2]int64{0: {0, 0}, 1: {9, 1}, 2: {0, 0}, 3: {0, 0}, 4: {375, 3}, 5: {0, 0}, 6: {0, 0}, 7: {4184, 5}, 10: {24171, 8}} {
		// Sums and greatest numbers are computed by another program.
		sum, most := int64(0), int64(0)
		allTileHands(count, func(hand []int64) {
			waits, ok := impl.WaitsOf(hand)
			wantList(t, waits, ok, plainWaits(full, hand), "WaitsOf", hand)
			sum += int64(len(waits))
			most = max(most, int64(len(waits)))
		})
		wantEqual(t, [2]int64{sum, most}, sums, "WaitsOf all hands of", count)
	}
	draws := rand.New(rand.NewSource(68))
	for range 2000 {
		hand := drawTileHand(draws, 13-draws.Intn(2))
		waits, ok := impl.WaitsOf(hand)
		wantList(t, waits, ok, plainWaits(full, hand), "WaitsOf", hand)
	}
	cases := []struct{ counts, want []int64 }{
		{[]int64{2, 1, 1, 0, 0, 0, 0, 0, 0}, []int64{0, 3}},
		{[]int64{3, 1, 1, 1, 1, 1, 1, 1, 3}, counted(9)},
		{[]int64{4, 0, 0, 0, 0, 0, 0, 0, 0}, nil}, // there is no fifth one
		{[]int64{4, 1, 1, 1, 0, 0, 0, 0, 0}, []int64{3}},
		{[]int64{0, 0, 4, 3, 0, 0, 0, 0, 0}, []int64{1, 4}},
		{[]int64{0, 0, 0, 0, 0, 0, 0, 0, 1}, []int64{8}},
		{make([]int64, 9), nil},
	}
	for _, c := range cases {
		waits, ok := impl.WaitsOf(c.counts)
		wantList(t, waits, ok, c.want, "WaitsOf", c.counts)
	}
	for range 50 {
		hand := drawTileHand(draws, 14)
		waits, ok := impl.WaitsOf(hand)
		wantNoList(t, waits, ok, "WaitsOf 14 tiles", hand)
	}
}

// wantFarBySteps tells whether a hand is as far from full as one exchange less, for the nearest one, and no exchange changes more.
func wantFarBySteps(t *testing.T, hand []int64) {
	t.Helper()
	far, ok := impl.FarFromFull(hand)
	ways, _ := impl.FullWays(hand)
	wantEqual(t, ok && far >= 0 && (far == 0) == (ways > 0), true, "FarFromFull is 0 for full hands", hand, far)
	least := far
	for less := range hand {
		for more := range hand {
			next := slices.Clone(hand)
			next[less]--
			next[more]++
			if less == more || next[less] < 0 || next[more] > 4 {
				continue
			}
			other, ok := impl.FarFromFull(next)
			wantEqual(t, ok && max(far-other, other-far) <= 1, true, "FarFromFull by one exchange", hand, far, next, other)
			least = min(least, other)
		}
	}
	wantEqual(t, least, max(far-1, 0), "FarFromFull by the best exchange", hand)
}

func TestHandsAreFarFromFull(t *testing.T) {
	full := fullHands()
	sized := map[int64][]handKey{}
	for hand := range full {
		sized[sumOf(hand[:])] = append(sized[sumOf(hand[:])], hand)
	}
	for count, sums := range map[int64][2]int64{2: {36, 1}, 5: {1254, 2}} {
		sum, most := int64(0), int64(0)
		allTileHands(count, func(hand []int64) {
			far, ok := impl.FarFromFull(hand)
			wantEqual(t, ok, true, "FarFromFull", hand)
			sum += far
			most = max(most, far)
		})
		wantEqual(t, [2]int64{sum, most}, sums, "FarFromFull of all hands of", count)
	}
	draws := rand.New(rand.NewSource(69))
	for _, count := range []int{2, 5, 8, 11, 14} {
		for range 20 {
			hand := drawTileHand(draws, count)
			want := int64(count)
			for _, other := range sized[int64(count)] {
				missing := int64(0)
				for kind := range other {
					missing += max(other[kind]-hand[kind], 0)
				}
				want = min(want, missing)
			}
			far, ok := impl.FarFromFull(hand)
			wantInteger(t, far, ok, want, "FarFromFull", hand)
		}
		for range 3 {
			wantFarBySteps(t, drawTileHand(draws, count))
		}
	}
	for count := range 15 {
		if count%3 == 2 {
			continue
		}
		hand := drawTileHand(draws, count)
		far, ok := impl.FarFromFull(hand)
		wantNoInteger(t, far, ok, "FarFromFull of so many tiles", hand)
		kind, most, ok := impl.BestDiscard(hand)
		wantEqual(t, ok || kind != 0 || most != 0, false, "BestDiscard of so many tiles", hand)
	}
	cases := []struct {
		counts []int64
		want   int64
	}{
		{[]int64{1, 0, 0, 1, 0, 0, 1, 1, 1}, 1},
		{[]int64{4, 0, 0, 0, 0, 0, 0, 0, 1}, 1},
		{[]int64{3, 1, 1, 1, 2, 0, 0, 0, 0}, 0},
		{[]int64{1, 0, 0, 0, 0, 0, 0, 0, 1}, 1},
		// A fifth tile of a kind would be one exchange.
		{[]int64{0, 0, 0, 0, 0, 4, 0, 0, 4}, 2},
		{[]int64{4, 0, 0, 4, 0, 0, 2, 2, 2}, 2},
		{[]int64{3, 0, 0, 0, 4, 0, 0, 0, 4}, 2},
	}
	for _, c := range cases {
		far, ok := impl.FarFromFull(c.counts)
		wantInteger(t, far, ok, c.want, "FarFromFull", c.counts)
	}
}

func TestTilesAreDiscarded(t *testing.T) {
	full := fullHands()
	for count, sums := range map[int64][2]int64{2: {120, 45}, 5: {4190, 2065}, 8: {34438, 19854}} {
		// Sums of kinds and of numbers of waits are computed by another program.
		kinds, waits := int64(0), int64(0)
		allTileHands(count, func(hand []int64) {
			kind, most, ok := impl.BestDiscard(hand)
			if ok {
				kinds, waits = kinds+kind, waits+most
			}
		})
		wantEqual(t, [2]int64{kinds, waits}, sums, "BestDiscard of all hands of", count)
	}
	draws := rand.New(rand.NewSource(70))
	for _, count := range []int{2, 5, 8, 11, 14} {
		for range 100 {
			hand := drawTileHand(draws, count)
			kind, most := plainDiscard(full, hand)
			got, waits, ok := impl.BestDiscard(hand)
			wantEqual(t, ok && got == kind && waits == most, true, "BestDiscard", hand, got, waits, kind, most)
		}
	}
	cases := []struct {
		counts          []int64
		ways, far       int64
		kind, waitCount int64
	}{
		// These are computed by another program.
		{[]int64{0, 4, 1, 1, 1, 1, 2, 4, 0}, 0, 1, 7, 5},
		{[]int64{2, 2, 0, 3, 0, 0, 4, 3, 0}, 0, 1, 6, 2},
		{[]int64{2, 1, 0, 2, 0, 3, 1, 2, 3}, 0, 2, 0, 0},
		{[]int64{0, 2, 0, 3, 0, 1, 3, 3, 2}, 1, 0, 5, 3},
		{[]int64{1, 1, 4, 1, 1, 1, 1, 3, 1}, 1, 0, 8, 8},
		{[]int64{2, 2, 1, 3, 1, 3, 2, 0, 0}, 0, 1, 4, 1},
		{[]int64{1, 4, 2, 0, 0, 4, 0, 3, 0}, 0, 1, 5, 3},
		{[]int64{2, 3, 0, 1, 3, 1, 1, 3, 0}, 0, 1, 3, 3},
		{[]int64{2, 1, 4, 0, 3, 0, 0, 4, 0}, 0, 1, 7, 3},
		{[]int64{0, 1, 0, 1, 3, 3, 0, 2, 4}, 0, 1, 8, 1},
		{[]int64{2, 2, 2, 0, 0, 1, 4, 1, 2}, 1, 0, 8, 4},
		{[]int64{0, 0, 0, 0, 0, 2, 4, 4, 4}, 3, 0, 6, 3},
		{[]int64{1, 1, 1, 1, 1, 0, 0, 0, 0}, 0, 1, 0, 2},
		{[]int64{1, 0, 0, 0, 0, 0, 0, 0, 1}, 0, 1, 0, 1},
		{[]int64{0, 0, 0, 0, 2, 0, 0, 0, 0}, 1, 0, 4, 1},
	}
	for _, c := range cases {
		ways, ok := impl.FullWays(c.counts)
		wantInteger(t, ways, ok, c.ways, "FullWays", c.counts)
		far, ok := impl.FarFromFull(c.counts)
		wantInteger(t, far, ok, c.far, "FarFromFull", c.counts)
		kind, waits, ok := impl.BestDiscard(c.counts)
		wantInteger(t, kind, ok, c.kind, "BestDiscard", c.counts)
		wantInteger(t, waits, ok, c.waitCount, "BestDiscard's waits", c.counts)
	}
}
