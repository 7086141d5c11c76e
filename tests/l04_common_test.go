package tests

import (
	"math"
	"math/big"
	"slices"
	"testing"
)

// farNumbers are integers far from all that chapter 4 takes.
var farNumbers = []int64{math.MinInt64, math.MinInt64 + 1, -1 << 32, -1, 1000001, 1 << 32, math.MaxInt64 - 1, math.MaxInt64}

// isLowest reports whether two integers are a fraction without a common factor.
func isLowest(over, under int64) bool {
	return under >= 1 && new(big.Int).GCD(nil, nil, big.NewInt(over), big.NewInt(under)).Cmp(big.NewInt(1)) == 0
}

// isShare reports whether two integers are a fraction from 0 to 1 without a common factor.
func isShare(over, under int64) bool { return over >= 0 && over <= under && isLowest(over, under) }

func wantFraction(t *testing.T, over, under int64, ok bool, wantOver, wantUnder int64, what string, args ...any) {
	t.Helper()
	if !ok || over != wantOver || under != wantUnder {
		t.Errorf("%s %v: got %v, %v, %v, want %v, %v, true", what, args, over, under, ok, wantOver, wantUnder)
	}
}

// wantRat tells whether two integers are a fraction that is wanted.
func wantRat(t *testing.T, over, under int64, ok bool, want *big.Rat, what string, args ...any) {
	t.Helper()
	wantFraction(t, over, under, ok, want.Num().Int64(), want.Denom().Int64(), what, args...)
}

func wantNoFraction(t *testing.T, over, under int64, ok bool, what string, args ...any) {
	t.Helper()
	if ok || over != 0 || under != 0 {
		t.Errorf("%s %v: got %v, %v, %v, want a failure", what, args, over, under, ok)
	}
}

// without calls look with good arguments, one of which is replaced by one that is bad at its place.
func without(good []int64, bad [][]int64, look func(args []int64)) {
	for place, list := range bad {
		for _, x := range slices.Concat(list, farNumbers) {
			args := slices.Clone(good)
			args[place] = x
			look(args)
		}
	}
}

// allWords returns all lists of long symbols, in the order of the first symbols, then of the second ones, and so on.
func allWords(symbols int64, long int) [][]int64 {
	words := [][]int64{{}}
	for range long {
		var longer [][]int64
		for _, word := range words {
			for symbol := range symbols {
				longer = append(longer, append(slices.Clone(word), symbol))
			}
		}
		words = longer
	}
	return words
}

// plainStreak returns how many ones, at most, are one behind the other.
func plainStreak(bits []int64) int64 {
	most, now := int64(0), int64(0)
	for _, bit := range bits {
		now = (now + 1) * bit
		most = max(most, now)
	}
	return most
}

// plainHas reports whether a list has a word, by looking at each place.
func plainHas(list, word []int64) bool {
	for from := 0; from+len(word) <= len(list); from++ {
		if slices.Equal(list[from:from+len(word)], word) {
			return true
		}
	}
	return false
}

// binomial returns how many sets of k of n things there are.
func binomial(n, k int64) int64 { return new(big.Int).Binomial(n, k).Int64() }
