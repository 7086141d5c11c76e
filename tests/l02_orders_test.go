package tests

import (
	"math"
	"slices"
	"testing"

	"loop.example/g01401/impl"
)

// draws has decks and seeds that DrawDeck returns; they are computed by another program.
var draws = []struct {
	n, seed int64
	deck    []int64
	then    int64
}{
	{1, 0, []int64{0}, 0},
	{1, 4294967295, []int64{0}, 4294967295},
	{2, 0, []int64{1, 0}, 1013904223},
	{2, 4294967295, []int64{1, 0}, 1012239698},
	{3, 0, []int64{1, 2, 0}, 1196435762},
	{5, 7, []int64{0, 2, 4, 3, 1}, 3981355051},
	{10, 123456789, []int64{6, 0, 5, 8, 1, 3, 9, 4, 7, 2}, 1696368920},
	{20, 1, []int64{17, 6, 16, 8, 13, 1, 14, 19, 3, 2, 12, 15, 18, 10, 5, 0, 11, 9, 7, 4}, 2931756366},
	{52, 0, []int64{4, 39, 43, 6, 11, 8, 1, 49, 46, 5, 20, 50, 47, 41, 2, 9, 23, 17, 36, 48, 27, 26, 3, 38, 45, 35, 44, 37, 7, 51, 31, 16, 21, 13, 10, 42, 19, 0, 34, 24, 30, 33, 25, 22, 28, 15, 29, 18, 32, 40, 14, 12}, 594074265},
	{52, 4294967295, []int64{35, 49, 27, 24, 7, 4, 13, 3, 17, 0, 33, 23, 20, 38, 28, 51, 31, 47, 45, 8, 18, 16, 11, 15, 37, 50, 42, 44, 5, 21, 48, 26, 39, 40, 10, 19, 1, 29, 36, 25, 2, 14, 22, 43, 32, 46, 41, 34, 30, 6, 9, 12}, 4063032388},
}

func TestDecksAreDrawn(t *testing.T) {
	for _, d := range draws {
		deck, then, ok := impl.DrawDeck(d.n, d.seed)
		wantList(t, deck, ok, d.deck, "DrawDeck", d.n, d.seed)
		wantEqual(t, then, d.then, "DrawDeck, the seed then", d.n, d.seed)
	}
	for n := int64(1); n <= 52; n++ {
		for seed := int64(0); seed <= math.MaxUint32; seed += 330382099 {
			deck, then, ok := impl.DrawDeck(n, seed)
			wantWhole(t, deck, ok, int(n), "DrawDeck", n, seed)
			wantEqual(t, then >= 0 && then <= math.MaxUint32, true, "DrawDeck, the seed then", n, seed, then)
		}
	}
	bad := [][2]int64{{0, 0}, {-1, 0}, {53, 0}, {1 << 32, 0}, {math.MinInt64, 0}, {math.MaxInt64, 0}, {1, -1}, {1, 4294967296}, {52, -1}, {52, 4294967296}, {5, math.MinInt64}, {5, math.MaxInt64}}
	for _, b := range bad {
		deck, then, ok := impl.DrawDeck(b[0], b[1])
		wantNoList(t, deck, ok, "DrawDeck", b)
		wantEqual(t, then, 0, "DrawDeck, the seed then", b)
	}
}

func TestOrdersAreJoined(t *testing.T) {
	joined, ok := impl.JoinDecks([]int64{2, 0, 1}, []int64{1, 0, 2})
	wantList(t, joined, ok, []int64{0, 2, 1}, "JoinDecks")
	joined, ok = impl.JoinDecks([]int64{1, 0, 2}, []int64{2, 0, 1})
	wantList(t, joined, ok, []int64{2, 1, 0}, "JoinDecks")
	decks := someDecks()
	for i, a := range decks {
		for _, b := range decks[max(0, i-30):] {
			joined, ok := impl.JoinDecks(a, b)
			if len(a) != len(b) {
				wantNoList(t, joined, ok, "JoinDecks", a, b)
				break
			}
			var want []int64
			for _, place := range b {
				want = append(want, a[place])
			}
			wantList(t, joined, ok, want, "JoinDecks", a, b)
			wantWhole(t, joined, ok, len(a), "JoinDecks", a, b)
		}
	}
	for _, deck := range badDecks {
		joined, ok := impl.JoinDecks(deck, counted(int64(len(deck))))
		wantNoList(t, joined, ok, "JoinDecks", deck)
		joined, ok = impl.JoinDecks(counted(int64(len(deck))), deck)
		wantNoList(t, joined, ok, "JoinDecks to", deck)
	}
}

func TestOrdersLeadBack(t *testing.T) {
	back, ok := impl.BackDeck([]int64{2, 0, 1})
	wantList(t, back, ok, []int64{1, 2, 0}, "BackDeck")
	for _, deck := range someDecks() {
		back, ok := impl.BackDeck(deck)
		wantWhole(t, back, ok, len(deck), "BackDeck", deck)
		again, ok := impl.BackDeck(back)
		wantList(t, again, ok, deck, "BackDeck leads back", deck)
		joined, ok := impl.JoinDecks(deck, back)
		wantList(t, joined, ok, counted(int64(len(deck))), "JoinDecks of a deck and its back", deck)
		joined, ok = impl.JoinDecks(back, deck)
		wantList(t, joined, ok, counted(int64(len(deck))), "JoinDecks of a back and its deck", deck)
	}
	for _, deck := range badDecks {
		back, ok := impl.BackDeck(deck)
		wantNoList(t, back, ok, "BackDeck", deck)
	}
}

// rings returns a deck with a cycle of each length, one behind the other.
func rings(lengths ...int64) []int64 {
	var deck []int64
	for _, length := range lengths {
		first := int64(len(deck))
		for i := range length {
			deck = append(deck, first+(i+1)%length)
		}
	}
	return deck
}

func TestCyclesAreTold(t *testing.T) {
	cases := []struct {
		deck, cycles []int64
		order, sign  int64
	}{
		{[]int64{0}, []int64{1}, 1, 1},
		{[]int64{1, 0}, []int64{2}, 2, -1},
		{[]int64{1, 0, 2}, []int64{1, 2}, 2, -1},
		{[]int64{2, 0, 1}, []int64{3}, 3, 1},
		{[]int64{4, 3, 0, 1, 2}, []int64{2, 3}, 6, -1},
		{[]int64{3, 2, 1, 0}, []int64{2, 2}, 2, 1},
		{counted(52), slices.Repeat([]int64{1}, 52), 1, 1},
		{rings(52), []int64{52}, 52, -1},
		{rings(4, 6, 4), []int64{4, 4, 6}, 12, -1},
		{rings(11, 4, 13, 5, 9, 7, 1, 1, 1), []int64{1, 1, 1, 4, 5, 7, 9, 11, 13}, 180180, -1},
	}
	for _, c := range cases {
		cycles, ok := impl.CyclesOf(c.deck)
		wantList(t, cycles, ok, c.cycles, "CyclesOf", c.deck)
		order, ok := impl.OrderOf(c.deck)
		wantInteger(t, order, ok, c.order, "OrderOf", c.deck)
		sign, ok := impl.SignOf(c.deck)
		wantInteger(t, sign, ok, c.sign, "SignOf", c.deck)
	}
}

// timesBack returns how often a deck is joined to itself until it is a new one.
func timesBack(deck []int64) int64 {
	joined := slices.Clone(deck)
	for times := int64(1); ; times++ {
		if slices.IsSorted(joined) {
			return times
		}
		for place, card := range joined {
			joined[place] = deck[card]
		}
	}
}

// swaps returns how many pairs of cards stand the wrong way round.
func swaps(deck []int64) int64 {
	count := int64(0)
	for i, card := range deck {
		for _, behind := range deck[i:] {
			if behind < card {
				count++
			}
		}
	}
	return count
}

func TestCyclesOfManyDecks(t *testing.T) {
	for _, deck := range someDecks() {
		cycles, ok := impl.CyclesOf(deck)
		sum := int64(0)
		for _, length := range cycles {
			sum += length
		}
		wantEqual(t, ok && slices.IsSorted(cycles) && sum == int64(len(deck)), true, "CyclesOf has all places", deck, cycles)
		if len(deck) <= 20 {
			order, ok := impl.OrderOf(deck)
			wantInteger(t, order, ok, timesBack(deck), "OrderOf", deck)
		}
		sign, ok := impl.SignOf(deck)
		wantInteger(t, sign, ok, 1-2*(swaps(deck)%2), "SignOf", deck)
	}
	for _, deck := range badDecks {
		cycles, ok := impl.CyclesOf(deck)
		wantNoList(t, cycles, ok, "CyclesOf", deck)
		order, ok := impl.OrderOf(deck)
		wantNoInteger(t, order, ok, "OrderOf", deck)
		sign, ok := impl.SignOf(deck)
		wantNoInteger(t, sign, ok, "SignOf", deck)
	}
}

func TestRanksLeadToOrdersAndBack(t *testing.T) {
	for n := int64(1); n <= 6; n++ {
		decks := allDecks(n)
		for i, deck := range decks {
			rank, ok := impl.RankOf(deck)
			wantInteger(t, rank, ok, int64(i), "RankOf", deck)
			of, ok := impl.DeckOfRank(n, int64(i))
			wantList(t, of, ok, deck, "DeckOfRank", n, i)
		}
		of, ok := impl.DeckOfRank(n, int64(len(decks)))
		wantNoList(t, of, ok, "DeckOfRank", n, len(decks))
	}
	for _, deck := range someDecks() {
		rank, ok := impl.RankOf(deck)
		if len(deck) > 20 {
			wantNoInteger(t, rank, ok, "RankOf", deck)
			continue
		}
		of, fine := impl.DeckOfRank(int64(len(deck)), rank)
		wantList(t, of, ok && fine, deck, "DeckOfRank leads back", deck)
	}
	for n, all := int64(1), int64(1); n <= 20; n++ {
		all *= n
		last := counted(n)
		slices.Reverse(last)
		rank, ok := impl.RankOf(counted(n))
		wantInteger(t, rank, ok, 0, "RankOf the first deck", n)
		rank, ok = impl.RankOf(last)
		wantInteger(t, rank, ok, all-1, "RankOf the last deck", n)
		deck, ok := impl.DeckOfRank(n, 0)
		wantList(t, deck, ok, counted(n), "DeckOfRank 0", n)
		deck, ok = impl.DeckOfRank(n, all-1)
		wantList(t, deck, ok, last, "DeckOfRank of the last rank", n)
		for _, rank := range []int64{-1, all, all + 1, -all, math.MinInt64, math.MaxInt64} {
			deck, ok := impl.DeckOfRank(n, rank)
			wantNoList(t, deck, ok, "DeckOfRank", n, rank)
		}
	}
}

func TestRanksFail(t *testing.T) {
	for _, n := range []int64{0, -1, 21, 52, 53, 1 << 32, math.MinInt64, math.MaxInt64} {
		for _, rank := range []int64{0, 1, -1} {
			deck, ok := impl.DeckOfRank(n, rank)
			wantNoList(t, deck, ok, "DeckOfRank", n, rank)
		}
	}
	for _, deck := range badDecks {
		rank, ok := impl.RankOf(deck)
		wantNoInteger(t, rank, ok, "RankOf", deck)
	}
}
