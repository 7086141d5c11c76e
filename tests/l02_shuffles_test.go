package tests

import (
	"math"
	"slices"
	"testing"

	"loop.example/g01401/impl"
)

func TestDecksAreTold(t *testing.T) {
	for _, deck := range someDecks() {
		wantEqual(t, impl.IsDeck(deck), true, "IsDeck", deck)
	}
	for _, deck := range badDecks {
		wantEqual(t, impl.IsDeck(deck), false, "IsDeck", deck)
	}
	for n := int64(1); n <= 52; n++ {
		deck, ok := impl.NewDeck(n)
		wantList(t, deck, ok, counted(n), "NewDeck", n)
	}
	for _, n := range []int64{0, -1, 53, 1 << 32, 1<<32 + 5, math.MinInt64, math.MaxInt64} {
		deck, ok := impl.NewDeck(n)
		wantNoList(t, deck, ok, "NewDeck", n)
	}
}

func TestDecksAreTurned(t *testing.T) {
	turned, ok := impl.TurnDeck([]int64{2, 0, 3, 1})
	wantList(t, turned, ok, []int64{1, 3, 0, 2}, "TurnDeck")
	for _, deck := range someDecks() {
		turned, ok := impl.TurnDeck(deck)
		wantWhole(t, turned, ok, len(deck), "TurnDeck", deck)
		back, ok := impl.TurnDeck(turned)
		wantList(t, back, ok, deck, "TurnDeck leads back", deck)
	}
	for _, deck := range badDecks {
		turned, ok := impl.TurnDeck(deck)
		wantNoList(t, turned, ok, "TurnDeck", deck)
	}
}

func TestDecksAreCut(t *testing.T) {
	deck := []int64{2, 0, 3, 1, 4}
	for k, want := range [][]int64{{2, 0, 3, 1, 4}, {0, 3, 1, 4, 2}, {3, 1, 4, 2, 0}, {1, 4, 2, 0, 3}, {4, 2, 0, 3, 1}, {2, 0, 3, 1, 4}} {
		cut, ok := impl.CutDeck(deck, int64(k))
		wantList(t, cut, ok, want, "CutDeck", k)
	}
	for _, deck := range someDecks() {
		for k := range int64(len(deck) + 1) {
			cut, ok := impl.CutDeck(deck, k)
			wantWhole(t, cut, ok, len(deck), "CutDeck", deck, k)
			back, ok := impl.CutDeck(cut, int64(len(deck))-k)
			wantList(t, back, ok, deck, "CutDeck leads back", deck, k)
		}
	}
	for _, k := range []int64{-1, 6, 1 << 32, math.MinInt64, math.MaxInt64} {
		cut, ok := impl.CutDeck(deck, k)
		wantNoList(t, cut, ok, "CutDeck", deck, k)
	}
	for _, deck := range badDecks {
		cut, ok := impl.CutDeck(deck, 0)
		wantNoList(t, cut, ok, "CutDeck", deck)
	}
}

func TestPerfectShuffles(t *testing.T) {
	cases := []struct {
		deck, out, in []int64
	}{
		{[]int64{0, 1}, []int64{0, 1}, []int64{1, 0}},
		{[]int64{1, 0}, []int64{1, 0}, []int64{0, 1}},
		{[]int64{0, 1, 2, 3}, []int64{0, 2, 1, 3}, []int64{2, 0, 3, 1}},
		{[]int64{5, 3, 1, 0, 2, 4}, []int64{5, 0, 3, 2, 1, 4}, []int64{0, 5, 2, 3, 4, 1}},
	}
	for _, c := range cases {
		out, ok := impl.PerfectShuffle(c.deck, false)
		wantList(t, out, ok, c.out, "PerfectShuffle out", c.deck)
		in, ok := impl.PerfectShuffle(c.deck, true)
		wantList(t, in, ok, c.in, "PerfectShuffle in", c.deck)
	}
	for _, deck := range someDecks() {
		for _, in := range []bool{false, true} {
			shuffled, ok := impl.PerfectShuffle(deck, in)
			if len(deck)%2 == 1 {
				wantNoList(t, shuffled, ok, "PerfectShuffle of an odd number", deck, in)
				continue
			}
			wantWhole(t, shuffled, ok, len(deck), "PerfectShuffle", deck, in)
			late := make([]bool, len(deck))
			for place := range late {
				late[place] = (place%2 == 1) != in
			}
			back, ok := impl.UnriffleBy(shuffled, late)
			wantList(t, back, ok, deck, "UnriffleBy leads back", deck, in)
		}
	}
	for _, deck := range badDecks {
		shuffled, ok := impl.PerfectShuffle(deck, len(deck)%3 == 0)
		wantNoList(t, shuffled, ok, "PerfectShuffle", deck)
	}
}

// powerOrder returns the least power of 2, at least the first one, that is 1 as a remainder.
func powerOrder(by int64) int64 {
	power := 2 % by
	for times := int64(1); ; times++ {
		if power == 1%by {
			return times
		}
		power = power * 2 % by
	}
}

func TestPerfectShufflesMakeTheDeckAgain(t *testing.T) {
	for n := int64(2); n <= 52; n += 2 {
		out, ok := impl.ShuffleOrder(n, false)
		wantInteger(t, out, ok, powerOrder(n-1), "ShuffleOrder out", n)
		in, ok := impl.ShuffleOrder(n, true)
		wantInteger(t, in, ok, powerOrder(n+1), "ShuffleOrder in", n)
	}
	out, ok := impl.ShuffleOrder(52, false)
	wantInteger(t, out, ok, 8, "ShuffleOrder out", 52)
	in, ok := impl.ShuffleOrder(52, true)
	wantInteger(t, in, ok, 52, "ShuffleOrder in", 52)
	for _, n := range []int64{0, 1, 3, 51, 53, 54, -1, -2, 1 << 32, math.MinInt64, math.MaxInt64} {
		for _, in := range []bool{false, true} {
			times, ok := impl.ShuffleOrder(n, in)
			wantNoInteger(t, times, ok, "ShuffleOrder", n, in)
		}
	}
}

func TestRifflesLeadBack(t *testing.T) {
	riffled, ok := impl.RiffleBy([]int64{4, 2, 0, 1, 3}, []bool{true, false, false, true, false})
	wantList(t, riffled, ok, []int64{1, 4, 2, 3, 0}, "RiffleBy")
	before, ok := impl.UnriffleBy([]int64{1, 4, 2, 3, 0}, []bool{true, false, false, true, false})
	wantList(t, before, ok, []int64{4, 2, 0, 1, 3}, "UnriffleBy")
	for _, deck := range someDecks() {
		for _, late := range someBools(len(deck)) {
			riffled, ok := impl.RiffleBy(deck, late)
			wantWhole(t, riffled, ok, len(deck), "RiffleBy", deck, late)
			back, ok := impl.UnriffleBy(riffled, late)
			wantList(t, back, ok, deck, "UnriffleBy leads back", deck, late)
			before, ok := impl.UnriffleBy(deck, late)
			wantList(t, before, ok, earlyFirst(deck, late), "UnriffleBy", deck, late)
			back, ok = impl.RiffleBy(before, late)
			wantList(t, back, ok, deck, "RiffleBy leads back", deck, late)
		}
	}
}

// earlyFirst returns the cards at whose places late is false, and then the others.
func earlyFirst(deck []int64, late []bool) []int64 {
	var first, last []int64
	for place, card := range deck {
		if late[place] {
			last = append(last, card)
		} else {
			first = append(first, card)
		}
	}
	return append(first, last...)
}

func TestRifflesFail(t *testing.T) {
	for _, late := range [][]bool{nil, {}, {true}, {false, true}, {false, false, false, false}} {
		riffled, ok := impl.RiffleBy([]int64{2, 1, 0}, late)
		wantNoList(t, riffled, ok, "RiffleBy", late)
		before, ok := impl.UnriffleBy([]int64{2, 1, 0}, late)
		wantNoList(t, before, ok, "UnriffleBy", late)
	}
	for _, deck := range badDecks {
		late := make([]bool, len(deck))
		riffled, ok := impl.RiffleBy(deck, late)
		wantNoList(t, riffled, ok, "RiffleBy", deck)
		before, ok := impl.UnriffleBy(deck, late)
		wantNoList(t, before, ok, "UnriffleBy", deck)
	}
}

func TestOverhandShuffles(t *testing.T) {
	cases := []struct {
		deck, sizes, want []int64
	}{
		{[]int64{0}, []int64{1}, []int64{0}},
		{[]int64{3, 1, 0, 2, 4}, []int64{5}, []int64{3, 1, 0, 2, 4}},
		{[]int64{3, 1, 0, 2, 4}, []int64{1, 1, 1, 1, 1}, []int64{4, 2, 0, 1, 3}},
		{[]int64{3, 1, 0, 2, 4}, []int64{2, 3}, []int64{0, 2, 4, 3, 1}},
		{[]int64{3, 1, 0, 2, 4}, []int64{1, 3, 1}, []int64{4, 1, 0, 2, 3}},
	}
	for _, c := range cases {
		shuffled, ok := impl.OverhandBy(c.deck, c.sizes)
		wantList(t, shuffled, ok, c.want, "OverhandBy", c.deck, c.sizes)
	}
	for _, deck := range someDecks() {
		for _, late := range someBools(len(deck)) {
			sizes := packetSizes(late)
			shuffled, ok := impl.OverhandBy(deck, sizes)
			wantWhole(t, shuffled, ok, len(deck), "OverhandBy", deck, sizes)
			back := slices.Clone(sizes)
			slices.Reverse(back)
			again, ok := impl.OverhandBy(shuffled, back)
			wantList(t, again, ok, deck, "OverhandBy leads back", deck, sizes)
		}
	}
	for _, sizes := range [][]int64{nil, {}, {2}, {4}, {1, 1}, {1, 3}, {3, 1}, {0, 3}, {3, 0}, {1, 0, 2}, {-1, 4}, {4, -1}, {1, 1, 1, 1}, {math.MaxInt64, math.MaxInt64, 5}, {math.MinInt64, math.MinInt64, 3}} {
		shuffled, ok := impl.OverhandBy([]int64{2, 1, 0}, sizes)
		wantNoList(t, shuffled, ok, "OverhandBy", sizes)
	}
	for _, deck := range badDecks {
		shuffled, ok := impl.OverhandBy(deck, []int64{int64(len(deck))})
		wantNoList(t, shuffled, ok, "OverhandBy", deck)
		shuffled, ok = impl.OverhandBy(deck, nil)
		wantNoList(t, shuffled, ok, "OverhandBy", deck)
	}
}

// packetSizes returns how many places there are from each change of bools to the next one.
func packetSizes(late []bool) []int64 {
	sizes := []int64{1}
	for place := 1; place < len(late); place++ {
		if late[place] == late[place-1] {
			sizes[len(sizes)-1]++
		} else {
			sizes = append(sizes, 1)
		}
	}
	return sizes
}

func TestMongeShuffles(t *testing.T) {
	for n, want := range map[int64][]int64{1: {0}, 2: {1, 0}, 3: {1, 0, 2}, 4: {3, 1, 0, 2}, 7: {5, 3, 1, 0, 2, 4, 6}} {
		shuffled, ok := impl.MongeShuffle(counted(n))
		wantList(t, shuffled, ok, want, "MongeShuffle", n)
	}
	shuffled, ok := impl.MongeShuffle([]int64{3, 0, 4, 1, 2})
	wantList(t, shuffled, ok, []int64{1, 0, 3, 4, 2}, "MongeShuffle")
	for _, deck := range someDecks() {
		shuffled, ok := impl.MongeShuffle(deck)
		wantWhole(t, shuffled, ok, len(deck), "MongeShuffle", deck)
		top := len(deck) / 2
		for place, card := range deck {
			// The first card comes to the place top; the others stand beside it in turn.
			at := top + place/2
			if place%2 == 1 {
				at = top - 1 - place/2
			}
			wantEqual(t, at < len(shuffled) && shuffled[at] == card, true, "MongeShuffle", deck, shuffled, place)
		}
	}
	for _, deck := range badDecks {
		shuffled, ok := impl.MongeShuffle(deck)
		wantNoList(t, shuffled, ok, "MongeShuffle", deck)
	}
}
