package tests

import (
	"fmt"
	"math"
	"slices"
	"testing"

	"loop.example/g01401/impl"
)

// diceNumbers are integers at which rules of chapter 5 change, and some far from all of them.
var diceNumbers = []int64{math.MinInt64, -1 << 32, -2, -1, 0, 1, 2, 3, 4, 5, 6, 7, 8, 9, 12, 13, 16, 20, 21, 26, 27, 28, 200, 201, 256, 257,
	4294967295, 4294967296, math.MaxInt64}

func callsOfDie(d impl.Die) string {
	a, b, one := impl.OtherPair(d)
	greater, less, equal, two := impl.Beats(d, dieOf(0, 3, 20))
	others, wins, ties, three := impl.Beats(dieOf(1, 2), d)
	sum, four := impl.SumAt(d, 1.5-0.5i)
	wide, five := impl.SumAt(d, 3e38i)
	return told(impl.ValidDie(d), impl.SameDie(d, d), impl.SameDie(d, dieOf(1, 2)), a, b, one, greater, less, equal, two, others, wins, ties, three, sum, four, wide, five)
}

func callsOfDice(dice []impl.Die) string {
	counts, ways, one := impl.SumCounts(dice)
	same, two := impl.SameSums(dice, dice)
	other, three := impl.SameSums(dice, []impl.Die{dieOf(1, 2)})
	best, all, four := impl.BestOf(dice, 1)
	ring, five := impl.IsRing(dice)
	turns, six := impl.TurnSums(dice)
	mean, of, seven := impl.MeanOf(dice)
	spread, under, eight := impl.SpreadOf(dice)
	rolls, seed, nine := impl.RollDice(dice, 77, 5)
	return told(counts, ways, one, same, two, other, three, best, all, four, ring, five, turns, six, mean, of, seven, spread, under, eight, rolls, seed, nine)
}

func callsOfDieAndNumber(d impl.Die, n int64) string {
	pool, of, one := impl.PoolChance(n, d, 3, 1)
	most, under, two := impl.PoolChance(5, d, n, 2)
	need, below, three := impl.PoolChance(8, d, 3, n)
	uppers, four := impl.PoolsShared(d, []int64{2, n, 3}, 2, 1, 2)
	shared, five := impl.PoolsShared(d, []int64{2, 3}, 2, 1, n)
	sums, ways, six := impl.BestOf([]impl.Die{d, d, d}, n)
	rolls, seed, seven := impl.RollDice([]impl.Die{d}, n, 3)
	many, then, eight := impl.RollDice([]impl.Die{d, d}, 5, n)
	return told(pool, of, one, most, under, two, need, below, three, uppers, four, shared, five, sums, ways, six, rolls, seed, seven, many, then, eight)
}

func callsOfPlainNumbers(n, k int64) string {
	d, one := impl.PlainDie(n)
	ring, two := impl.FindRing(n, k)
	race, of, three := impl.RaceChance(n, k, 3)
	turned, under, four := impl.RaceChance(3, n, k)
	rolls, below, five := impl.RaceRolls(n, k)
	return told(d, one, ring, two, race, of, three, turned, under, four, rolls, below, five)
}

func callsOfIntegerLists(a, b []int64, n int64) string {
	far, one := impl.TestCounts(a, b)
	shown, two := impl.WeighCoins(n, a, 1)
	heavy, three := impl.WeighCoins(3, a, n)
	left, four := impl.CoinsLeft(n, a, b)
	plan, five := impl.IsCoinPlan(n, a)
	mine, others, six := impl.LearnThrows(a, n)
	even, seven := impl.EvenThrows(a)
	return told(far, one, shown, two, heavy, three, left, four, plan, five, mine, others, six, even, seven)
}

// pairsOfLists returns lists of integers of which functions of chapter 5 take some, and others they do not take.
func pairsOfLists() [][2][]int64 {
	pairs := [][2][]int64{{nil, nil}, {diceNumbers, diceNumbers}, {counted(64), counted(65)[1:]}, {{1, -1, 0}, {0}}, {{1, -1, 0, 0, 1, -1}, {1, 0}}, {{0, 0, 0, 0}, {1, 1, 1, 1}}}
	for _, wins := range append(slices.Clone(badWins), ringWins(1, 3, 2), ringWins(9, 6, 3), []int64{0, 1, -1, 0}, make([]int64, 25)) {
		pairs = append(pairs, [2][]int64{wins, slices.Repeat([]int64{1}, len(wins))})
	}
	return pairs
}

// someDice returns lists of dice, valid or not.
func someDice() [][]impl.Die {
	return append(badLists(), mixedDice, mixedDice[1:4], manyOf(plainSided(6), 2), manyOf(dieOf(0), 6), diceOf([]int64{2, 2, 6}, []int64{1, 5, 5}, []int64{3, 3, 3}))
}

func TestDiceCallsReturnEqualResults(t *testing.T) {
	for _, d := range append(append(slices.Clone(badDice), mixedDice...), plainSided(6), dieOf(4, 4)) {
		again := dieOf(slices.Clone(d.Faces)...)
		wantEqual(t, callsOfDie(d), callsOfDie(again), "calls of a die", d)
		for _, n := range diceNumbers {
			wantEqual(t, callsOfDieAndNumber(d, n), callsOfDieAndNumber(again, n), "calls of a die and a number", d, n)
		}
	}
	for _, dice := range someDice() {
		wantEqual(t, callsOfDice(dice), callsOfDice(slices.Clone(dice)), "calls of dice", dice)
	}
	for _, n := range diceNumbers {
		for _, k := range diceNumbers {
			wantEqual(t, callsOfPlainNumbers(n, k), callsOfPlainNumbers(n, k), "calls of two numbers", n, k)
		}
		for _, p := range pairsOfLists() {
			wantEqual(t, callsOfIntegerLists(p[0], p[1], n), callsOfIntegerLists(slices.Clone(p[0]), slices.Clone(p[1]), n), "calls of lists", p, n)
		}
	}
	for _, re := range specialBits {
		for _, im := range specialBits {
			for _, d := range []impl.Die{dieOf(0, 1, 20), dieOf(3), badDice[0]} {
				sum, ok := impl.SumAt(d, cnumber(re, im))
				again, fine := impl.SumAt(d, cnumber(re, im))
				wantEqual(t, ok == fine && impl.SameComplex(sum, again), true, "SumAt", d, cnumber(re, im))
				wantEqual(t, impl.IsFiniteComplex(sum) && (ok || impl.SameComplex(sum, 0)), true, "SumAt is finite", d, cnumber(re, im), sum)
			}
		}
	}
}

func TestNilAndEmptyDiceAreOneValue(t *testing.T) {
	empty := []int64{}
	wantEqual(t, callsOfDie(impl.Die{}), callsOfDie(dieOf(empty...)), "calls of no faces")
	wantEqual(t, callsOfDice(nil), callsOfDice([]impl.Die{}), "calls of no dice")
	for _, n := range diceNumbers {
		wantEqual(t, callsOfIntegerLists(nil, nil, n), callsOfIntegerLists(empty, empty, n), "calls of empty lists", n)
		for _, p := range pairsOfLists() {
			wantEqual(t, callsOfIntegerLists(p[0], nil, n), callsOfIntegerLists(p[0], empty, n), "calls with an empty list", p[0], n)
		}
		one, ok := impl.PoolsShared(plainSided(6), nil, n, n, 2)
		two, fine := impl.PoolsShared(plainSided(6), empty, n, n, 2)
		wantEqual(t, ok && fine && len(one) == 0 && len(two) == 0, true, "PoolsShared of no numbers", n)
	}
}

func TestDiceAreNotModified(t *testing.T) {
	for _, list := range someDice() {
		// Faces of all dice have unused capacity, and so has the list.
		var dice []impl.Die
		var wholes, befores [][]int64
		for _, d := range list {
			faces, whole := spare(d.Faces, 9)
			dice = append(dice, dieOf(faces...))
			wholes, befores = append(wholes, whole), append(befores, slices.Clone(whole))
		}
		dice, whole := spare(dice, dieOf(8))
		callsOfDice(dice)
		for _, d := range dice {
			callsOfDie(d)
			for _, n := range []int64{0, 1, 2, 3, 8} {
				callsOfDieAndNumber(d, n)
			}
		}
		wantEqual(t, fmt.Sprint(wholes), fmt.Sprint(befores), "faces stay", list)
		wantEqual(t, fmt.Sprint(whole), fmt.Sprint(append(slices.Clone(list), dieOf(8), dieOf(8), dieOf(8))), "dice stay", list)
	}
	for _, p := range pairsOfLists() {
		a, wholeA := spare(p[0], 1)
		b, wholeB := spare(p[1], 1)
		beforeA, beforeB := slices.Clone(wholeA), slices.Clone(wholeB)
		for _, n := range diceNumbers {
			callsOfIntegerLists(a, b, n)
			callsOfIntegerLists(b, a, n)
			impl.PoolsShared(plainSided(6), a, n, 1, 3)
		}
		wantEqual(t, slices.Equal(wholeA, beforeA) && slices.Equal(wholeB, beforeB), true, "lists stay", p)
	}
	// Dice that stand one behind another in one memory.
	memory := []int64{2, 2, 6, 1, 5, 5, 3, 3, 3}
	before := slices.Clone(memory)
	dice := diceOf(memory[:3], memory[3:6], memory[6:])
	callsOfDice(dice)
	for _, d := range dice {
		callsOfDie(d)
	}
	wantEqual(t, slices.Equal(memory, before), true, "dice in one memory stay", memory)
}

func TestDiceResultsAreNewMemory(t *testing.T) {
	d, dice := plainSided(6), []impl.Die{plainSided(6), dieOf(4)}
	pans, wins := []int64{1, -1, 0, 1, 0, -1}, ringWins(1, 3, 2)
	shown, numbers := []int64{0, -1}, []int64{2, 3}
	calls := map[string]func() ([][]int64, bool){
		"PlainDie": func() ([][]int64, bool) {
			plain, ok := impl.PlainDie(6)
			return [][]int64{plain.Faces}, ok
		},
		"SumCounts": func() ([][]int64, bool) {
			counts, _, ok := impl.SumCounts(dice)
			return [][]int64{counts}, ok
		},
		"OtherPair": func() ([][]int64, bool) {
			a, b, ok := impl.OtherPair(d)
			return [][]int64{a.Faces, b.Faces}, ok
		},
		"BestOf": func() ([][]int64, bool) {
			counts, _, ok := impl.BestOf(dice, 1)
			return [][]int64{counts}, ok
		},
		"FindRing": func() ([][]int64, bool) {
			ring, ok := impl.FindRing(3, 6)
			var faces [][]int64
			for _, d := range ring {
				faces = append(faces, d.Faces)
			}
			return faces, ok
		},
		"RollDice": func() ([][]int64, bool) {
			rolls, _, ok := impl.RollDice(dice, 5, 3)
			return [][]int64{rolls}, ok
		},
		"PoolsShared": func() ([][]int64, bool) {
			uppers, ok := impl.PoolsShared(d, numbers, 3, 1, 2)
			return [][]int64{uppers}, ok
		},
		"WeighCoins": func() ([][]int64, bool) {
			shown, ok := impl.WeighCoins(3, pans, 2)
			return [][]int64{shown}, ok
		},
		"CoinsLeft": func() ([][]int64, bool) {
			left, ok := impl.CoinsLeft(3, pans, shown)
			return [][]int64{left}, ok
		},
		"LearnThrows": func() ([][]int64, bool) {
			one, two, ok := impl.LearnThrows(wins, 20)
			return [][]int64{one, two}, ok
		},
		"EvenThrows": func() ([][]int64, bool) {
			even, ok := impl.EvenThrows(wins)
			return [][]int64{even}, ok
		},
	}
	for name, call := range calls {
		first, ok := call()
		want := fmt.Sprint(first)
		for i := range first {
			kept := slices.Clone(first[i])
			for k := range first {
				if k != i {
					overwrite(first[k])
				}
			}
			wantList(t, first[i], ok, kept, name+" has results that share nothing")
			first, ok = call()
		}
		for _, list := range first {
			overwrite(list)
		}
		second, fine := call()
		wantEqual(t, fine && fmt.Sprint(second) == want, true, name, second, want)
		wantEqual(t, fmt.Sprint(d, dice, pans, wins, shown, numbers),
			"{[1 2 3 4 5 6]} [{[1 2 3 4 5 6]} {[4]}] [1 -1 0 1 0 -1] [0 1 -2 -1 0 3 2 -3 0] [0 -1] [2 3]", name+" shares nothing with its arguments")
	}
	turns, ok := impl.TurnSums(dice)
	want := fmt.Sprint(turns)
	clear(turns[:cap(turns)])
	again, fine := impl.TurnSums(dice)
	wantEqual(t, ok && fine && fmt.Sprint(again) == want, true, "TurnSums", again, want)
}

func TestPoolsAreSharedAtOnce(t *testing.T) {
	d, numbers := plainSided(10), []int64{8, 7, 6, 5, 4, 3, 2}
	want, _ := impl.PoolsShared(d, numbers, 8, 2, 1)
	wantSameAtOnce(t, want, func(workers int64) ([]int64, bool) { return impl.PoolsShared(d, numbers, 8, 2, workers) }, "PoolsShared at once")
}

func TestHugeDiceFail(t *testing.T) {
	huge := make([]int64, 1<<22)
	d := dieOf(huge...)
	none := callsOfDieAndNumber(impl.Die{}, 1)
	wantEqual(t, callsOfDieAndNumber(d, 1), none, "calls of a huge die")
	many := manyOf(dieOf(1), 1<<20)
	wantEqual(t, callsOfDice(many), callsOfDice(nil), "calls of many dice")
	wantEqual(t, callsOfDice(manyOf(d, 6)), callsOfDice(nil), "calls of huge dice")
	wantEqual(t, impl.ValidDie(d), false, "ValidDie of a huge die")
	wantEqual(t, impl.SameDie(d, dieOf(slices.Clone(huge)...)), true, "SameDie of huge dice")
	wantEqual(t, impl.SameDie(d, dieOf(huge[1:]...)), false, "SameDie of huge dice")
	for _, n := range diceNumbers {
		wantEqual(t, callsOfIntegerLists(huge, huge, n), callsOfIntegerLists(make([]int64, 1000), make([]int64, 1000), n), "calls of huge lists", n)
	}
	uppers, ok := impl.PoolsShared(plainSided(6), slices.Repeat([]int64{2}, 1<<20), 2, 1, 8)
	wantNoList(t, uppers, ok, "PoolsShared of many numbers")
}
