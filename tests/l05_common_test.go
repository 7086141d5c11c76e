package tests

import (
	"math"
	"math/rand"
	"slices"
	"testing"

	"loop.example/g01401/impl"
)

func dieOf(faces ...int64) impl.Die { return impl.Die{Faces: faces} }

func diceOf(lists ...[]int64) []impl.Die {
	var dice []impl.Die
	for _, faces := range lists {
		dice = append(dice, dieOf(faces...))
	}
	return dice
}

// plainSided returns the die of the faces 1 to n.
func plainSided(n int64) impl.Die { return dieOf(counted(n + 1)[1:]...) }

// manyOf returns count dice that are all the same.
func manyOf(d impl.Die, count int) []impl.Die { return slices.Repeat([]impl.Die{d}, count) }

// mixedDice are six dice of different numbers of faces.
var mixedDice = diceOf([]int64{0, 1, 1, 2, 3, 5, 8, 13, 20, 20, 20, 20}, []int64{1, 2, 3, 4}, []int64{0, 7}, []int64{4, 4, 9}, []int64{6},
	[]int64{2, 3, 5, 7, 11, 13, 17, 19})

// badDice are no dice, each for one reason.
var badDice = []impl.Die{{}, dieOf([]int64{}...), dieOf(-1), dieOf(21), dieOf(1, 0), dieOf(0, 1, 2, 1), dieOf(-1, 0, 1), dieOf(19, 20, 21), dieOf(0, 20, 0),
	dieOf(counted(13)...), dieOf(make([]int64, 13)...), dieOf(math.MinInt64, 0), dieOf(0, math.MaxInt64), dieOf(0, 1<<32), dieOf(make([]int64, 1000)...)}

// badLists are lists of dice that are not as many as may be thrown, or not all valid.
func badLists() [][]impl.Die {
	lists := [][]impl.Die{nil, {}, manyOf(dieOf(1, 2), 7), manyOf(dieOf(1), 1000)}
	for _, bad := range badDice {
		for at := range 3 {
			lists = append(lists, slices.Insert(manyOf(plainSided(3), 2), at, bad))
		}
		lists = append(lists, []impl.Die{bad}, slices.Insert(manyOf(dieOf(1), 5), 5, bad))
	}
	return lists
}

// allSided returns all dice of so many faces from least to most, in the order of their lists of faces.
func allSided(faces int, least, most int64) []impl.Die {
	lists := [][]int64{{}}
	for range faces {
		var longer [][]int64
		for _, list := range lists {
			from := least
			if len(list) > 0 {
				from = list[len(list)-1]
			}
			for face := from; face <= most; face++ {
				longer = append(longer, append(slices.Clone(list), face))
			}
		}
		lists = longer
	}
	return diceOf(lists...)
}

// drawDice draws 1 to most dice of at most faces faces each.
func drawDice(draws *rand.Rand, most, faces int) []impl.Die {
	var dice []impl.Die
	for range 1 + draws.Intn(most) {
		var list []int64
		top := 1 + draws.Int63n(impl.MaxFace)
		for range 1 + draws.Intn(faces) {
			list = append(list, draws.Int63n(top+1))
		}
		slices.Sort(list)
		dice = append(dice, dieOf(list...))
	}
	return dice
}

// throwsOf returns the faces of all throws of dice.
func throwsOf(dice []impl.Die) [][]int64 {
	throws := [][]int64{{}}
	for _, d := range dice {
		var longer [][]int64
		for _, throw := range throws {
			for _, face := range d.Faces {
				longer = append(longer, append(slices.Clone(throw), face))
			}
		}
		throws = longer
	}
	return throws
}

// plainCounts returns, throw by throw, how often each sum of the keep greatest faces is thrown.
func plainCounts(dice []impl.Die, keep int) []int64 {
	var counts []int64
	for _, throw := range throwsOf(dice) {
		slices.Sort(throw)
		sum := sumOf(throw[len(throw)-keep:])
		for int64(len(counts)) <= sum {
			counts = append(counts, 0)
		}
		counts[sum]++
	}
	return counts
}

func wantDie(t *testing.T, got impl.Die, want []int64, what string, args ...any) {
	t.Helper()
	if !slices.Equal(got.Faces, want) {
		t.Errorf("%s %v: got %v, want %v", what, args, got.Faces, want)
	}
}

// wantSums tells whether counts of sums, and how many ways there are, are those that are wanted.
func wantSums(t *testing.T, counts []int64, ways int64, ok bool, want []int64, what string, args ...any) {
	t.Helper()
	if !ok || !slices.Equal(counts, want) || ways != sumOf(want) {
		t.Errorf("%s %v: got %v, %v, %v, want %v, %v, true", what, args, counts, ways, ok, want, sumOf(want))
	}
}
