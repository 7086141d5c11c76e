package tests

import (
	"math"
	"math/rand"
	"slices"
	"testing"

	"loop.example/g01401/impl"
)

func TestHandsAreDifferentCards(t *testing.T) {
	draws := rand.New(rand.NewSource(31))
	for n := 1; n <= 7; n++ {
		for range 20 {
			hand := drawHand(draws, n)
			wantEqual(t, impl.IsHand(hand), true, "IsHand", hand)
			for i := range hand {
				for _, card := range []int64{-1, 52, 53, math.MinInt64, math.MaxInt64, hand[(i+1)%n]} {
					other := slices.Clone(hand)
					other[i] = card
					wantEqual(t, impl.IsHand(other), n == 1 && card == hand[0], "IsHand", other)
				}
			}
		}
	}
	for card := int64(-3); card < 60; card++ {
		wantEqual(t, impl.IsHand([]int64{card}), card >= 0 && card <= 51, "IsHand of one card", card)
	}
	for _, hand := range badHands {
		wantEqual(t, impl.IsHand(hand), false, "IsHand", hand)
	}
}

// kindCases are five cards, their kinds, and the digits of their values.
var kindCases = []struct {
	cards, digits []int64
	kind          int64
}{
	{[]int64{0, 13, 26, 39, 1}, []int64{0, 0, 0, 0, 1}, 7},
	{[]int64{12, 0, 1, 2, 16}, []int64{3, 0, 0, 0, 0}, 4},
	{[]int64{12, 0, 1, 2, 3}, []int64{3, 0, 0, 0, 0}, 8},
	{[]int64{3, 1, 12, 0, 2}, []int64{3, 0, 0, 0, 0}, 8},
	{[]int64{0, 1, 2, 3, 4}, []int64{4, 0, 0, 0, 0}, 8},
	{[]int64{47, 48, 51, 50, 49}, []int64{12, 0, 0, 0, 0}, 8},
	{[]int64{8, 9, 10, 11, 25}, []int64{12, 0, 0, 0, 0}, 4},
	{[]int64{20, 8, 9, 23, 24}, []int64{11, 0, 0, 0, 0}, 4},
	{[]int64{11, 12, 0, 1, 15}, []int64{12, 11, 2, 1, 0}, 0}, // no row goes on from 12 to 0
	{[]int64{11, 12, 0, 1, 2}, []int64{12, 11, 2, 1, 0}, 5},
	{[]int64{12, 0, 1, 2, 17}, []int64{12, 4, 2, 1, 0}, 0},
	{[]int64{0, 1, 2, 3, 18}, []int64{5, 3, 2, 1, 0}, 0},
	{[]int64{0, 13, 1, 14, 4}, []int64{1, 1, 0, 0, 4}, 2}, // ranks from 0 to 4, but no five
	{[]int64{0, 4, 17, 30, 43}, []int64{4, 4, 4, 4, 0}, 7},
	{[]int64{51, 38, 25, 11, 24}, []int64{12, 12, 12, 11, 11}, 6},
	{[]int64{0, 13, 26, 12, 25}, []int64{0, 0, 0, 12, 12}, 6},
	{[]int64{5, 18, 31, 12, 0}, []int64{5, 5, 5, 12, 0}, 3},
	{[]int64{5, 18, 7, 20, 0}, []int64{7, 7, 5, 5, 0}, 2},
	{[]int64{5, 18, 7, 20, 12}, []int64{7, 7, 5, 5, 12}, 2},
	{[]int64{12, 25, 0, 13, 6}, []int64{12, 12, 0, 0, 6}, 2},
	{[]int64{0, 13, 12, 11, 10}, []int64{0, 0, 12, 11, 10}, 1},
	{[]int64{26, 28, 30, 32, 38}, []int64{12, 6, 4, 2, 0}, 5},
	{[]int64{0, 1, 2, 3, 25}, []int64{3, 0, 0, 0, 0}, 4},
	{[]int64{5, 17, 1, 38, 7}, []int64{12, 7, 5, 4, 1}, 0},
}

func TestKindsAndValuesAreTold(t *testing.T) {
	for _, c := range kindCases {
		kind, ok := impl.KindOf(c.cards)
		wantInteger(t, kind, ok, c.kind, "KindOf", c.cards)
		want := c.kind
		for _, digit := range c.digits {
			want = 13*want + digit
		}
		value, ok := impl.ValueOf(c.cards)
		wantInteger(t, value, ok, want, "ValueOf", c.cards)
	}
	value, ok := impl.ValueOf([]int64{0, 13, 26, 39, 1})
	wantInteger(t, value, ok, 2599052, "ValueOf", "of four")
	met := [9]int{}
	draws := rand.New(rand.NewSource(32))
	for i := range 6000 {
		hand := drawHand(draws, 5)
		if i%2 == 0 {
			hand = drawLikeHand(draws, 5)
		}
		kind, ok := impl.KindOf(hand)
		wantInteger(t, kind, ok, plainKind(hand), "KindOf", hand)
		met[plainKind(hand)]++
		value, ok := impl.ValueOf(hand)
		wantInteger(t, value, ok, plainValue(hand), "ValueOf", hand)
	}
	wantEqual(t, slices.Contains(met[:], 0), false, "all kinds are met", met)
}

func TestKindsNeedFiveCards(t *testing.T) {
	lists := slices.Clone(badHands)
	for n := range int64(8) {
		if n != 5 {
			lists = append(lists, counted(n))
		}
	}
	for _, list := range lists {
		kind, ok := impl.KindOf(list)
		wantNoInteger(t, kind, ok, "KindOf", list)
		value, ok := impl.ValueOf(list)
		wantNoInteger(t, value, ok, "ValueOf", list)
	}
}

func TestBestFiveAreTheFirstOnes(t *testing.T) {
	cases := []struct{ hand, best []int64 }{
		{[]int64{5, 0, 13, 26, 39, 1}, []int64{5, 0, 13, 26, 39}},
		{[]int64{1, 0, 13, 26, 39, 5}, []int64{0, 13, 26, 39, 5}},
		{[]int64{5, 18, 0, 13, 26, 39, 31}, []int64{5, 0, 13, 26, 39}},     // of equal fifth cards, the first one
		{[]int64{12, 0, 1, 2, 16, 29, 3}, []int64{12, 0, 1, 2, 3}},         // a row in one suit, though others come before it
		{[]int64{12, 13, 27, 41, 3, 16, 29}, []int64{12, 13, 27, 41, 3}},   // of three equal rows, the first one
		{[]int64{6, 5, 4, 3, 2, 1, 0}, []int64{6, 5, 4, 3, 2}},             // in the order of the hand
		{[]int64{0, 1, 2, 3, 4, 12, 11}, []int64{0, 1, 2, 3, 4}},           // the row that ends with 12 counts less
		{[]int64{0, 13, 1, 14, 2, 15, 30}, []int64{1, 14, 2, 15, 30}},      // of three pairs, the greater two
		{[]int64{0, 13, 26, 1, 14, 27, 40}, []int64{0, 1, 14, 27, 40}},     // the first other card, of equal ones
		{[]int64{0, 13, 26, 1, 14, 27}, []int64{0, 13, 1, 14, 27}},         // of two threes, the greater one
		{[]int64{40, 2, 4, 6, 8, 10, 12}, []int64{4, 6, 8, 10, 12}},        // of six of a suit, the greatest
		{[]int64{4, 3, 2, 1, 0}, []int64{4, 3, 2, 1, 0}},                   // five cards are all
		{[]int64{9, 22, 35, 0, 14, 29, 45}, []int64{9, 22, 35, 29, 45}},    // three, and the greatest others
		{[]int64{51, 38, 25, 12, 37, 24, 11}, []int64{51, 38, 25, 12, 37}}, // four, and the first of the greatest others
		{[]int64{11, 24, 12, 25, 10, 23, 36}, []int64{12, 25, 10, 23, 36}}, // a three counts before greater pairs
		{[]int64{33, 20, 7, 46, 0, 13, 12}, []int64{33, 20, 7, 46, 12}},    // four, and one of no pair
		{[]int64{0, 15, 30, 45, 8, 23, 38}, []int64{30, 45, 8, 23, 38}},    // nothing, without the least two
		{[]int64{21, 35, 10, 24, 38, 9, 8}, []int64{21, 35, 10, 24, 38}},   // a row from the first ones
		{[]int64{25, 26, 1, 2, 3, 4, 18}, []int64{1, 2, 3, 4, 18}},         // the greater row of two
	}
	for _, c := range cases {
		best, _, ok := impl.BestFive(c.hand)
		wantList(t, best, ok, c.best, "BestFive", c.hand)
		wantBest(t, c.hand)
	}
	draws := rand.New(rand.NewSource(33))
	for range 1500 {
		for n := 5; n <= 7; n++ {
			wantBest(t, drawHand(draws, n))
			wantBest(t, drawLikeHand(draws, n))
		}
	}
	for _, hand := range append(slices.Clone(badHands), counted(1), counted(2), counted(3), counted(4)) {
		best, value, ok := impl.BestFive(hand)
		wantNothing(t, ok, [][]int64{best}, []int64{value}, "BestFive", hand)
	}
}

func TestValuesDoNotMindOrderAndSuits(t *testing.T) {
	draws := rand.New(rand.NewSource(34))
	for i := range 200 {
		hand := drawLikeHand(draws, 5+i%3)
		_, want, ok := impl.BestFive(hand)
		wantInteger(t, want, ok, want, "BestFive", hand)
		for _, suits := range allDecks(4) {
			other := suitsChanged(hand, suits)
			draws.Shuffle(len(other), func(i, j int) { other[i], other[j] = other[j], other[i] })
			best, value, ok := impl.BestFive(other)
			wantInteger(t, value, ok, want, "BestFive of other suits", hand, other)
			sign, ok := impl.CompareHands(hand, other)
			wantInteger(t, sign, ok, 0, "CompareHands of other suits", hand, other)
			value, ok = impl.ValueOf(best)
			wantInteger(t, value, ok, want, "ValueOf BestFive", hand, other)
		}
	}
}

func TestHandsAreCompared(t *testing.T) {
	draws := rand.New(rand.NewSource(35))
	for range 300 {
		a, b := drawHand(draws, 5+draws.Intn(3)), drawLikeHand(draws, 5+draws.Intn(3))
		_, left := plainBest(a)
		_, right := plainBest(b)
		want := int64(0)
		if left > right {
			want = 1
		} else if left < right {
			want = -1
		}
		sign, ok := impl.CompareHands(a, b)
		wantInteger(t, sign, ok, want, "CompareHands", a, b)
		sign, ok = impl.CompareHands(b, a)
		wantInteger(t, sign, ok, -want, "CompareHands", b, a)
	}
	sign, ok := impl.CompareHands([]int64{12, 0, 1, 2, 16}, []int64{0, 1, 2, 3, 17})
	wantInteger(t, sign, ok, -1, "CompareHands of rows that end with 3 and 4")
	sign, ok = impl.CompareHands([]int64{0, 13, 2, 3, 4}, []int64{0, 14, 2, 3, 5})
	wantInteger(t, sign, ok, 1, "CompareHands of a pair, and none")
	good := counted(5)
	for _, bad := range append(slices.Clone(badHands), counted(4), counted(1)) {
		sign, ok := impl.CompareHands(good, bad)
		wantNoInteger(t, sign, ok, "CompareHands with", bad)
		sign, ok = impl.CompareHands(bad, good)
		wantNoInteger(t, sign, ok, "CompareHands of", bad)
	}
}

func TestWorkersShareHands(t *testing.T) {
	draws := rand.New(rand.NewSource(36))
	for n := range 17 {
		many, want := [][]int64{}, []int64{}
		for i := range n {
			hand := drawLikeHand(draws, 5+i%3)
			_, value := plainBest(hand)
			many, want = append(many, hand), append(want, value)
		}
		for workers := int64(1); workers <= 8; workers++ {
			values, ok := impl.BestShared(many, workers)
			wantList(t, values, ok, want, "BestShared", many, workers)
		}
		for _, workers := range []int64{0, -1, 9, math.MinInt64, math.MaxInt64} {
			values, ok := impl.BestShared(many, workers)
			wantNoList(t, values, ok, "BestShared", many, workers)
		}
		for i := range many {
			for _, bad := range [][]int64{counted(4), counted(8), {0, 1, 2, 3, 3}, nil} {
				mixed := slices.Clone(many)
				mixed[i] = bad
				values, ok := impl.BestShared(mixed, 3)
				wantNoList(t, values, ok, "BestShared", mixed)
			}
		}
	}
	values, ok := impl.BestShared(slices.Repeat([][]int64{counted(5)}, 17), 4)
	wantNoList(t, values, ok, "BestShared of 17 hands")
}
