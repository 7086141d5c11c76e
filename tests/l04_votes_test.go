package tests

import (
	"math/big"
	"testing"

	"loop.example/g01401/impl"
)

// plainVotes counts of all orders of votes those in which the former, the ones, are always more, and those in which they are always at least as many.
func plainVotes(long int) (more, least map[int64]int64) {
	more, least = map[int64]int64{}, map[int64]int64{}
	for _, order := range allWords(2, long) {
		ahead, worst, worstLate := int64(0), int64(0), int64(1)
		for _, vote := range order {
			ahead += 2*vote - 1
			worst, worstLate = min(worst, ahead), min(worstLate, ahead)
		}
		if a := sumOf(order); worst >= 0 {
			least[a]++
			if worstLate >= 1 {
				more[a]++
			}
		}
	}
	return more, least
}

func TestVotesAreCountedInAllOrders(t *testing.T) {
	for long := int64(1); long <= 12; long++ {
		more, least := plainVotes(int(long))
		for a := int64(0); a <= long; a++ {
			ways, ok := impl.BallotWays(a, long-a, false)
			wantInteger(t, ways, ok, more[a], "BallotWays", a, long-a, false)
			ways, ok = impl.BallotWays(a, long-a, true)
			wantInteger(t, ways, ok, least[a], "BallotWays", a, long-a, true)
			over, under, ok := impl.BallotChance(a, long-a)
			wantRat(t, over, under, ok, big.NewRat(more[a], binomial(long, a)), "BallotChance", a, long-a)
		}
	}
}

// TestVotesAreCountedByTheLastOne tells orders of many votes from those of one less.
func TestVotesAreCountedByTheLastOne(t *testing.T) {
	for _, ties := range []bool{false, true} {
		ways := func(a, b int64) int64 {
			if a == 0 && b == 0 {
				return 1
			}
			if a < 0 || b < 0 {
				return 0
			}
			count, ok := impl.BallotWays(a, b, ties)
			wantEqual(t, ok, true, "BallotWays succeeds", a, b, ties)
			return count
		}
		for a := int64(0); a <= 60; a++ {
			for b := int64(0); a+b <= 60; b++ {
				if a == 0 && b == 0 {
					continue
				}
				want := int64(0)
				if a > b || ties && a == b {
					want = ways(a-1, b) + ways(a, b-1)
				}
				wantEqual(t, ways(a, b), want, "BallotWays", a, b, ties)
			}
		}
	}
	// These are computed by another program.
	for _, c := range [][4]int64{{3, 2, 2, 5}, {2, 2, 0, 2}, {60, 0, 1, 1}, {59, 1, 58, 59}, {30, 30, 0, 3814986502092304}, {31, 29, 3814986502092304, 10729649537134605},
		{33, 27, 8800480226417474, 18118635760271270}, {34, 26, 9318155533853796, 17970728529575178}, {40, 20, 1397281501935165, 2147042307851595},
		{29, 31, 0, 0}, {0, 60, 0, 0}, {0, 1, 0, 0}, {1, 0, 1, 1}} {
		ways, ok := impl.BallotWays(c[0], c[1], false)
		wantInteger(t, ways, ok, c[2], "BallotWays", c)
		ways, ok = impl.BallotWays(c[0], c[1], true)
		wantInteger(t, ways, ok, c[3], "BallotWays with ties", c)
	}
}

func TestVotesAreChances(t *testing.T) {
	cases := [][4]int64{{3, 2, 1, 5}, {2, 3, 0, 1}, {7, 7, 0, 1}, {1, 0, 1, 1}, {0, 1, 0, 1}, {9, 0, 1, 1}, {0, 1000000, 0, 1}, {1000000, 0, 1, 1},
		{1000000, 1000000, 0, 1}, {1000000, 999999, 1, 1999999}, {1000000, 500000, 1, 3}, {999999, 1, 499999, 500000}}
	for _, c := range cases {
		over, under, ok := impl.BallotChance(c[0], c[1])
		wantFraction(t, over, under, ok, c[2], c[3], "BallotChance", c)
	}
	bad := [][]int64{{-1, 1000001}, {-1, 1000001}}
	without([]int64{5, 4}, bad, func(a []int64) {
		over, under, ok := impl.BallotChance(a[0], a[1])
		wantNoFraction(t, over, under, ok, "BallotChance", a)
	})
	over, under, ok := impl.BallotChance(0, 0)
	wantNoFraction(t, over, under, ok, "BallotChance of no votes")
	for _, ties := range []bool{false, true} {
		without([]int64{5, 4}, [][]int64{{-1, -5, 57, 60, 61}, {-1, -4, 56, 60, 61}}, func(a []int64) {
			ways, ok := impl.BallotWays(a[0], a[1], ties)
			wantNoInteger(t, ways, ok, "BallotWays", a, ties)
		})
		for _, a := range [][2]int64{{0, 0}, {61, 0}, {0, 61}, {31, 30}, {61, -1}, {-1, 61}} {
			ways, ok := impl.BallotWays(a[0], a[1], ties)
			wantNoInteger(t, ways, ok, "BallotWays", a, ties)
		}
	}
}

// plainBitRuns counts runs of equal bits.
func plainBitRuns(bits []int64) int64 {
	runs := int64(1)
	for i := 1; i < len(bits); i++ {
		if bits[i] != bits[i-1] {
			runs++
		}
	}
	return runs
}

func TestBitRunsAreCounted(t *testing.T) {
	for long := int64(1); long <= 12; long++ {
		want := map[[2]int64]int64{}
		for _, word := range allWords(2, int(long)) {
			want[[2]int64{sumOf(word), plainBitRuns(word)}]++
		}
		for a := int64(0); a <= long; a++ {
			for runs := int64(-2); runs <= long+2; runs++ {
				ways, ok := impl.RunWays(a, long-a, runs)
				wantInteger(t, ways, ok, want[[2]int64{a, runs}], "RunWays", a, long-a, runs)
			}
		}
	}
	for long := int64(1); long <= 60; long++ {
		for a := int64(0); a <= long; a++ {
			sum := int64(0)
			for runs := int64(1); runs <= long; runs++ {
				ways, _ := impl.RunWays(a, long-a, runs)
				sum += ways
			}
			wantEqual(t, sum, binomial(long, a), "RunWays add up", a, long-a)
		}
	}
}

func TestBitRunsOfManyBits(t *testing.T) {
	// These are computed by another program.
	cases := [][4]int64{{2, 2, 3, 2}, {30, 30, 30, 12030722505475200}, {30, 30, 31, 12030722505475200}, {30, 30, 60, 2}, {30, 30, 1, 0}, {30, 30, 2, 2},
		{59, 1, 2, 2}, {59, 1, 3, 58}, {60, 0, 1, 1}, {0, 60, 1, 1}, {60, 0, 2, 0}, {1, 0, 1, 1}, {40, 20, 41, 68923264410}, {40, 20, 40, 137846528820},
		{40, 20, 42, 0}, {20, 40, 41, 68923264410}, {33, 27, 29, 8258043118080000}}
	for _, c := range cases {
		ways, ok := impl.RunWays(c[0], c[1], c[2])
		wantInteger(t, ways, ok, c[3], "RunWays", c)
	}
	// No word has so many runs.
	for _, runs := range farNumbers {
		ways, ok := impl.RunWays(30, 30, runs)
		wantInteger(t, ways, ok, 0, "RunWays", 30, 30, runs)
		ways, ok = impl.RunWays(0, 1, runs)
		wantInteger(t, ways, ok, 0, "RunWays", 0, 1, runs)
	}
	without([]int64{5, 4}, [][]int64{{-1, -4, 57, 60, 61}, {-1, -5, 56, 60, 61}}, func(a []int64) {
		ways, ok := impl.RunWays(a[0], a[1], 3)
		wantNoInteger(t, ways, ok, "RunWays", a)
	})
	for _, a := range [][2]int64{{0, 0}, {61, 0}, {0, 61}, {31, 30}, {61, -1}, {-1, 61}} {
		ways, ok := impl.RunWays(a[0], a[1], 1)
		wantNoInteger(t, ways, ok, "RunWays", a)
	}
}
