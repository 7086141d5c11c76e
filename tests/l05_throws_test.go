package tests

import (
	"math"
	"math/rand"
	"slices"
	"testing"

	"loop.example/g01401/impl"
)

// badWins are no wins of a game.
var badWins = [][]int64{
	nil, {}, {0}, {0, 0}, {0, 1, -1}, {0, 1, -1, 0, 0}, {0, 1, 1, 0}, {1, 0, 0, -1}, {0, 1, -2, 0}, {1, 1, -1, 1}, {0, 10, -10, 0}, {0, -10, 10, 0}, {0, 1, -1, 1},
	{0, 1, -2, -1, 0, 3, 2, -2, 0}, {0, 1, -2, -1, 0, 3, 2, -3, 1}, {0, 1, -1, 0, 1, -1, 0, 1}, {0, math.MinInt64, math.MinInt64, 0},
	{0, math.MaxInt64, -math.MaxInt64, 0}, {math.MinInt64, 0, 0, 0}, make([]int64, 10), make([]int64, 36), make([]int64, 1000),
}

// drawWins draws the wins of a game.
func drawWins(draws *rand.Rand, throws int, most int64) []int64 {
	wins := make([]int64, throws*throws)
	for i := range throws {
		for k := range i {
			wins[i*throws+k] = draws.Int63n(2*most+1) - most
			wins[k*throws+i] = -wins[i*throws+k]
		}
	}
	return wins
}

// plainLearn learns throw by throw, where the second one looks at what the first one loses.
func plainLearn(wins []int64, throws, rounds int) ([]int64, []int64) {
	var ones, twos []int
	next := func(gain func(throw int) int64) int {
		best := 0
		for throw := range throws {
			if gain(throw) > gain(best) {
				best = throw
			}
		}
		return best
	}
	for range rounds {
		one := next(func(throw int) int64 {
			gain := int64(0)
			for _, other := range twos {
				gain += wins[throw*throws+other]
			}
			return gain
		})
		two := next(func(throw int) int64 {
			gain := int64(0)
			for _, other := range ones {
				gain -= wins[other*throws+throw]
			}
			return gain
		})
		ones, twos = append(ones, one), append(twos, two)
	}
	a, b := make([]int64, throws), make([]int64, throws)
	for i := range ones {
		a[ones[i]]++
		b[twos[i]]++
	}
	return a, b
}

func wantThrows(t *testing.T, wins []int64, rounds int64, wantOne, wantTwo []int64) {
	t.Helper()
	one, two, ok := impl.LearnThrows(wins, rounds)
	if !ok || !slices.Equal(one, wantOne) || !slices.Equal(two, wantTwo) {
		t.Errorf("LearnThrows %v %v: got %v, %v, %v, want %v, %v, true", wins, rounds, one, two, ok, wantOne, wantTwo)
	}
}

func TestThrowsAreLearned(t *testing.T) {
	// These are computed by another program.
	cases := []struct {
		wins   []int64
		rounds int64
		want   []int64
	}{
		{[]int64{0, 1, -1, 0}, 3, []int64{3, 0}},
		{[]int64{0, -1, 1, 0}, 3, []int64{1, 2}},
		{[]int64{0, -1, 1, 0}, 1, []int64{1, 0}},
		{[]int64{0, 0, 0, 0}, 200, []int64{200, 0}},
		{[]int64{0, 9, -9, 0}, 200, []int64{200, 0}},
		{[]int64{0, 1, -1, -1, 0, 1, 1, -1, 0}, 1, []int64{1, 0, 0}},
		{[]int64{0, 1, -1, -1, 0, 1, 1, -1, 0}, 2, []int64{1, 0, 1}},
		{[]int64{0, 1, -1, -1, 0, 1, 1, -1, 0}, 7, []int64{2, 3, 2}},
		{[]int64{0, 1, -1, -1, 0, 1, 1, -1, 0}, 200, []int64{70, 63, 67}},
		{[]int64{0, 1, -2, -1, 0, 3, 2, -3, 0}, 200, []int64{96, 68, 36}},
		{[]int64{0, 9, -5, -9, 0, 1, 5, -1, 0}, 200, []int64{12, 56, 132}},
		{[]int64{0, -1, 1, 1, 0, -1, -1, 1, 0}, 100, []int64{40, 27, 33}},
		{[]int64{0, 1, -1, 2, -1, 0, 3, -2, 1, -3, 0, 1, -2, 2, -1, 0}, 200, []int64{111, 47, 41, 1}},
		{[]int64{0, -1, 1, 1, -1, 1, 0, -1, -1, 1, -1, 1, 0, 1, -1, -1, 1, -1, 0, 1, 1, -1, 1, -1, 0}, 200, []int64{33, 39, 43, 45, 40}},
	}
	for _, c := range cases {
		wantThrows(t, c.wins, c.rounds, c.want, c.want)
	}
	draws := rand.New(rand.NewSource(58))
	for throws := 2; throws <= 5; throws++ {
		for _, most := range []int64{1, 2, 9} {
			for range 10 {
				wins := drawWins(draws, throws, most)
				for _, rounds := range []int{1, 2, 3, 4, 5, 30, 200} {
					one, two := plainLearn(wins, throws, rounds)
					wantThrows(t, wins, int64(rounds), one, two)
				}
			}
		}
	}
}

func TestThrowsFail(t *testing.T) {
	for _, wins := range badWins {
		one, two, ok := impl.LearnThrows(wins, 3)
		wantNothing(t, ok, [][]int64{one, two}, nil, "LearnThrows", wins)
		even, ok := impl.EvenThrows(wins)
		wantNoList(t, even, ok, "EvenThrows", wins)
	}
	for _, rounds := range append([]int64{0, -200, 201}, farNumbers...) {
		one, two, ok := impl.LearnThrows([]int64{0, 1, -1, 0}, rounds)
		wantNothing(t, ok, [][]int64{one, two}, nil, "LearnThrows", rounds)
	}
	draws := rand.New(rand.NewSource(59))
	for range 200 {
		// One number that is changed makes a game none.
		wins := drawWins(draws, 2+draws.Intn(4), 9)
		wins[draws.Intn(len(wins))] += 1 + draws.Int63n(9)
		one, two, ok := impl.LearnThrows(wins, 3)
		wantNothing(t, ok, [][]int64{one, two}, nil, "LearnThrows", wins)
		even, ok := impl.EvenThrows(wins)
		wantNoList(t, even, ok, "EvenThrows", wins)
	}
}

// ringWins returns the wins of three throws, of which 0 gains a against 1, 1 gains b against 2, and 2 gains c against 0.
func ringWins(a, b, c int64) []int64 { return []int64{0, a, -c, -a, 0, b, c, -b, 0} }

func TestEvenThrowsGainNothing(t *testing.T) {
	cases := []struct{ wins, want []int64 }{
		{ringWins(1, 3, 2), []int64{3, 2, 1}},
		{ringWins(1, 1, 1), []int64{1, 1, 1}},
		{ringWins(9, 9, 9), []int64{1, 1, 1}},
		{ringWins(6, 4, 2), []int64{2, 1, 3}},
		{ringWins(6, 9, 4), []int64{9, 4, 6}},
		{ringWins(8, 4, 6), []int64{2, 3, 4}},
	}
	for _, c := range cases {
		even, ok := impl.EvenThrows(c.wins)
		wantList(t, even, ok, c.want, "EvenThrows", c.wins)
	}
	for a := int64(-2); a <= 9; a++ {
		for b := int64(-2); b <= 9; b++ {
			for c := int64(-2); c <= 9; c++ {
				wins := ringWins(a, b, c)
				even, ok := impl.EvenThrows(wins)
				if a <= 0 || b <= 0 || c <= 0 {
					wantNoList(t, even, ok, "EvenThrows of no ring", wins)
					continue
				}
				wantEqual(t, ok && len(even) == 3 && slices.Min(append(even, 9)) >= 1 && !haveFactor(even), true, "EvenThrows", wins, even)
				for i := range 3 {
					gain := int64(0)
					for k, times := range even {
						gain += wins[3*i+k] * times
					}
					wantEqual(t, gain, 0, "what a throw gains against EvenThrows", wins, even, i)
				}
			}
		}
	}
	draws := rand.New(rand.NewSource(60))
	for _, throws := range []int{2, 4, 5} {
		even, ok := impl.EvenThrows(drawWins(draws, throws, 9))
		wantNoList(t, even, ok, "EvenThrows of not three throws", throws)
	}
	for _, wins := range [][]int64{ringWins(10, 1, 1), ringWins(1, 10, 1), ringWins(1, 1, 10)} {
		even, ok := impl.EvenThrows(wins)
		wantNoList(t, even, ok, "EvenThrows of too great wins", wins)
	}
}

// haveFactor reports whether numbers from 1 to 9 have a common factor.
func haveFactor(list []int64) bool {
	for factor := int64(2); factor <= 9; factor++ {
		if !slices.ContainsFunc(list, func(n int64) bool { return n%factor != 0 }) {
			return true
		}
	}
	return false
}
