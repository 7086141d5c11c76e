package tests

import (
	"math"
	"math/rand"
	"slices"
	"testing"

	"loop.example/g01401/impl"
)

// badPlayers are no numbers of players.
var badPlayers = []int64{math.MinInt64, -1 << 32, -2, -1, 0, 1, 17, 18, 1 << 32, 1<<32 + 2, math.MaxInt64}

// notFinite are the bits of numbers that are not finite.
var notFinite = []uint32{infBits, negInfBits, nanBits, 0x7f800001, 0xffffffff}

// notPositive are the bits of numbers that are not both finite and greater than 0.
var notPositive = append([]uint32{zeroBits, negZeroBits, 0x80000001, 0xbf800000, 0xff7fffff}, notFinite...)

// gamesOf returns games with A, B and Result one behind the other.
func gamesOf(numbers ...int64) []impl.Game {
	var games []impl.Game
	for game := range slices.Chunk(numbers, 3) {
		games = append(games, impl.Game{A: game[0], B: game[1], Result: game[2]})
	}
	return games
}

// badGames returns lists that are no games of three players, each for one reason.
func badGames() [][]impl.Game {
	bad := gamesOf(0, 0, 1, 2, 2, 0, -1, 0, 1, 0, -1, 1, 3, 0, 1, 0, 3, 1, 0, 1, -1, 0, 1, 3, 1<<32, 1, 0, 0, 1<<32, 0, 0, 1, 1<<32,
		math.MinInt64, 0, 0, 0, math.MaxInt64, 0, 0, 1, math.MinInt64, 0, 1, math.MaxInt64)
	lists := [][]impl.Game{slices.Repeat(gamesOf(0, 1, 1), 129), slices.Repeat(gamesOf(0, 1, 1), 1000)}
	for _, game := range bad {
		lists = append(lists, []impl.Game{game}, append([]impl.Game{game}, gamesOf(0, 1, 2)...), append(slices.Repeat(gamesOf(0, 1, 2, 2, 1, 0), 63), game))
	}
	return lists
}

// luck draws as RollDice does. The tables of this chapter have arguments that another program has drawn in the same way.
type luck uint32

func (l *luck) below(n int64) int64 {
	*l = *l*1664525 + 1013904223
	return int64(uint64(*l) * uint64(n) >> 32)
}

func luckyGames(players, count, seed int64) []impl.Game {
	l := luck(seed)
	var games []impl.Game
	for range count {
		a, b := l.below(players), l.below(players-1)
		if b >= a {
			b++
		}
		games = append(games, impl.Game{A: a, B: b, Result: l.below(3)})
	}
	return games
}

func luckyRatings(players, seed int64) []float32 {
	l := luck(seed)
	var ratings []float32
	for range players {
		whole := l.below(1000)
		ratings = append(ratings, float32(1000+whole)+float32(l.below(64))/64)
	}
	return ratings
}

func luckyStrengths(players, seed int64) []float32 {
	l := luck(seed)
	var strengths []float32
	for range players {
		strengths = append(strengths, float32(1+l.below(4096))/256)
	}
	return strengths
}

// luckyWins returns how likely each of some players beats each one, which make 1 for both together.
func luckyWins(players, seed int64) []float32 {
	l := luck(seed)
	wins := make([]float32, players*players)
	for i := range players {
		for k := i + 1; k < players; k++ {
			wins[i*players+k] = float32(l.below(257)) / 256
			wins[k*players+i] = 1 - wins[i*players+k]
		}
	}
	return wins
}

// eachGames calls look with drawn games, none and the most of them included.
func eachGames(look func(players int64, games []impl.Game)) {
	draws := rand.New(rand.NewSource(7))
	for players := int64(2); players <= 16; players++ {
		for _, count := range []int64{0, 1, 2, players, 3 * players, 127, 128} {
			look(players, luckyGames(players, count, draws.Int63()))
		}
	}
}

// sumOfNumbers returns a sum in 64-bit numbers.
func sumOfNumbers(list []float32) float64 {
	sum := 0.0
	for _, x := range list {
		sum += float64(x)
	}
	return sum
}

func near(a, b, by float64) bool { return math.Abs(a-b) <= by }

func wantNoNumber(t *testing.T, got float32, ok bool, what string, args ...any) {
	t.Helper()
	if ok || oneNaN(got) != zeroBits {
		t.Errorf("%s %v: got %v, %v, want a failure", what, args, got, ok)
	}
}

func wantNoNumbers(t *testing.T, got []float32, ok bool, what string, args ...any) {
	t.Helper()
	if ok || len(got) != 0 {
		t.Errorf("%s %v: got %v, %v, want a failure", what, args, got, ok)
	}
}

// replaced returns a list with another thing at a place.
func replaced[T any](list []T, place int, thing T) []T {
	other := slices.Clone(list)
	other[place] = thing
	return other
}
