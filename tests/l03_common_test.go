package tests

import (
	"math"
	"math/rand"
	"slices"
	"testing"

	"loop.example/g01401/impl"
)

// badHands are lists that are no hands.
var badHands = [][]int64{
	nil, {}, {-1}, {52}, {0, 0}, {0, 1, 2, 3, 0}, {0, 1, 2, 3, 52}, {0, 1, 2, 3, -1}, {5, 4, 3, 2, 1, 5}, {0, 1, 2, 3, 4, 5, 52},
	{0, 1, 2, 3, 4, math.MinInt64}, {0, 1, 2, 3, math.MaxInt64}, {0, 1, 2, 3, 1 << 32}, counted(8), counted(52), slices.Repeat([]int64{7}, 1000),
}

// drawHand draws different cards.
func drawHand(draws *rand.Rand, n int) []int64 {
	var hand []int64
	for _, card := range draws.Perm(52)[:n] {
		hand = append(hand, int64(card))
	}
	return hand
}

// drawLikeHand draws different cards of few ranks and suits, so that all kinds are met.
func drawLikeHand(draws *rand.Rand, n int) []int64 {
	ranks, suits := 5+draws.Intn(4), 2+draws.Intn(3)
	var hand []int64
	for _, card := range draws.Perm(ranks * suits)[:n] {
		rank := (12 + card%ranks) % 13 // the greatest rank of all is one of the few
		hand = append(hand, int64(card/ranks*13+rank))
	}
	return hand
}

// suitsChanged returns cards with other suits.
func suitsChanged(cards, suits []int64) []int64 {
	changed := []int64{}
	for _, card := range cards {
		changed = append(changed, suits[card/13]*13+card%13)
	}
	return changed
}

// countsOfRanks returns how often each rank is there, and how often each number of equal ranks.
func countsOfRanks(cards []int64) ([13]int, [6]int) {
	var ranks [13]int
	var groups [6]int
	for _, card := range cards {
		ranks[card%13]++
	}
	for _, count := range ranks {
		groups[count]++
	}
	return ranks, groups
}

// plainRow returns the greatest rank of five in a row, or -1, by trying all rows.
func plainRow(cards []int64) int64 {
	ranks, _ := countsOfRanks(cards)
	for top := int64(3); top <= 12; top++ {
		isRow := true
		for back := range int64(5) {
			if ranks[(top-back+13)%13] != 1 {
				isRow = false
			}
		}
		if isRow {
			return top
		}
	}
	return -1
}

// plainKind tells the kind of five cards by its definition.
func plainKind(cards []int64) int64 {
	_, groups := countsOfRanks(cards)
	flush := true
	for _, card := range cards {
		flush = flush && card/13 == cards[0]/13
	}
	row := plainRow(cards) >= 0
	holds := []bool{groups[2] == 1, groups[2] == 2, groups[3] == 1, row, flush, groups[3] == 1 && groups[2] == 1, groups[4] == 1, flush && row}
	for kind := int64(8); kind >= 1; kind-- {
		if holds[kind-1] {
			return kind
		}
	}
	return 0
}

// plainValue tells the value of five cards by its definition.
func plainValue(cards []int64) int64 {
	digits := []int64{}
	ranks, _ := countsOfRanks(cards)
	for count := 4; count >= 1; count-- {
		for rank := int64(12); rank >= 0; rank-- {
			if ranks[rank] == count {
				digits = append(digits, slices.Repeat([]int64{rank}, count)...)
			}
		}
	}
	if top := plainRow(cards); top >= 0 {
		digits = []int64{top, 0, 0, 0, 0}
	}
	return plainKind(cards)*371293 + digits[0]*28561 + digits[1]*2197 + digits[2]*169 + digits[3]*13 + digits[4]
}

// plainBest tells the best five cards, and their value, by looking at all.
func plainBest(cards []int64) ([]int64, int64) {
	var best, bestPlaces []int64
	most := int64(-1)
	for bits := range 1 << len(cards) {
		var five, places []int64
		for i, card := range cards {
			if bits>>i&1 == 1 {
				five, places = append(five, card), append(places, int64(i))
			}
		}
		if len(five) != 5 {
			continue
		}
		value := plainValue(five)
		if value > most || value == most && slices.Compare(places, bestPlaces) < 0 {
			best, bestPlaces, most = five, places, value
		}
	}
	return best, most
}

// wantWins tells whether counts of wins are those that are wanted.
func wantWins(t *testing.T, ups, ties []int64, number int64, ok bool, wantUps, wantTies []int64, wantNumber int64, what string, args ...any) {
	t.Helper()
	if !ok || !slices.Equal(ups, wantUps) || !slices.Equal(ties, wantTies) || number != wantNumber {
		t.Errorf("%s %v: got %v, %v, %v, %v, want %v, %v, %v, true", what, args, ups, ties, number, ok, wantUps, wantTies, wantNumber)
	}
}

// wantNothing tells whether lists are empty, numbers 0, and a call has failed.
func wantNothing(t *testing.T, ok bool, lists [][]int64, numbers []int64, what string, args ...any) {
	t.Helper()
	for _, list := range lists {
		ok = ok || len(list) > 0
	}
	for _, n := range numbers {
		ok = ok || n != 0
	}
	if ok {
		t.Errorf("%s %v: got %v, %v, want a failure", what, args, lists, numbers)
	}
}

// wantBits tells whether numbers have the bits that are wanted.
func wantBits(t *testing.T, got []float32, ok bool, want []uint32, what string, args ...any) {
	t.Helper()
	if !ok || !sameList(got, numbers(want)) {
		t.Errorf("%s %v: got %v, %v, want %v, true", what, args, got, ok, numbers(want))
	}
}

// wantBest tells whether BestFive finds what is found by looking at all.
func wantBest(t *testing.T, hand []int64) {
	t.Helper()
	best, value := plainBest(hand)
	got, most, ok := impl.BestFive(hand)
	wantList(t, got, ok, best, "BestFive", hand)
	wantInteger(t, most, ok, value, "BestFive's value", hand)
}
