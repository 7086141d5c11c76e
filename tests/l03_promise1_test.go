package tests

import (
	"fmt"
	"math"
	"slices"
	"testing"

	"loop.example/g01401/impl"
)

// stakeNumbers are integers at which rules of chapter 3 change, and some far from all of them.
var stakeNumbers = []int64{math.MinInt64, -1, 0, 1, 2, 3, 4, 5, 6, 7, 13, 14, 32, 33, 99, 100, 101, 256, 257, 999999, 1000000, 1000001,
	10000000, 10000001, 4294967295, 4294967296, math.MaxInt64}

func callsOfHand(cards []int64) string {
	kind, one := impl.KindOf(cards)
	value, two := impl.ValueOf(cards)
	best, most, three := impl.BestFive(cards)
	sign, four := impl.CompareHands(cards, cards)
	shared, five := impl.BestShared([][]int64{cards, cards}, 3)
	outs, six := impl.OutsOf(cards, 2*371293)
	face, seven := impl.FaceOf(cards)
	return told(impl.IsHand(cards), kind, one, value, two, best, most, three, sign, four, shared, five, outs, six, face, seven)
}

func callsOfDeal(hands [][]int64, board []int64) string {
	ups, ties, seed, one := impl.DrawnWins(hands, board, 5, 4)
	if len(board) < 4 {
		// Counts of all boards take longer than draws.
		return told(ups, ties, seed, one)
	}
	others, shares, total, two := impl.WinCounts(hands, board)
	return told(ups, ties, seed, one, others, shares, total, two)
}

func callsOfStakes(list []int64, out []bool, values []int64) string {
	pots, sets, one := impl.SidePots(list, out)
	gets, two := impl.SharePots(list, out, values)
	chances, three := impl.PlaceChances(list)
	shares, four := impl.PrizeShares(list, values)
	return told(pots, sets, one, gets, two, chances, three, shares, four)
}

func callsOfTwoStakes(n, k int64) string {
	call, of, one := impl.CallShare(n, k)
	bluff, under, two := impl.BluffShare(n, k)
	gain, three := impl.CallGain(0.25, n, k)
	counts, four := impl.KindCounts(n, k)
	hands, five := impl.HandsLeft(n, k, 7, n, 4)
	others, six := impl.HandsLeft(1000, n, 3, 2, k)
	blinds, seven := impl.BlindSteps(n, 4, 3, k)
	steps, eight := impl.BlindSteps(1, n, k, 5)
	return told(call, of, one, bluff, under, two, gain, three, counts, four, hands, five, others, six, blinds, seven, steps, eight)
}

func callsOfChances(a, b, c float32) string {
	gain, one := impl.CallGain(a, 7, 3)
	share, two := impl.GrowthShare(a, b)
	growth, three := impl.GrowthAt(a, b, c)
	return told(gain, one, share, two, growth, three)
}

// handLists returns hands, and lists that are none.
func handLists() [][]int64 {
	lists := slices.Concat(badHands, [][]int64{stakeNumbers, {0, 13, 26, 39, 1}, {12, 0, 1, 2, 16, 29}, {51, 50, 38, 37, 2, 3, 17}})
	for n := range int64(9) {
		lists = append(lists, counted(n))
	}
	for _, x := range stakeNumbers {
		lists = append(lists, []int64{x}, []int64{8, x, 21, 34, 47, 9})
	}
	return lists
}

func deals() []struct {
	hands [][]int64
	board []int64
} {
	all := slices.Clone(badDeals)
	for _, c := range winCases {
		all = append(all, struct {
			hands [][]int64
			board []int64
		}{c.hands, c.board})
	}
	return all
}

func TestHandCallsReturnEqualResults(t *testing.T) {
	for _, list := range handLists() {
		wantEqual(t, callsOfHand(list), callsOfHand(slices.Clone(list)), "calls of a hand", list)
	}
	for _, d := range deals() {
		wantEqual(t, callsOfDeal(d.hands, d.board), callsOfDeal(d.hands, slices.Clone(d.board)), "calls of a deal", d)
	}
	for _, c := range potCases {
		for _, values := range append(handLists(), c.stakes, c.pots) {
			wantEqual(t, callsOfStakes(c.stakes, c.out, values), callsOfStakes(slices.Clone(c.stakes), slices.Clone(c.out), values), "calls of stakes", c, values)
		}
	}
	for _, b := range badStakes {
		wantEqual(t, callsOfStakes(b.stakes, b.out, b.stakes), callsOfStakes(b.stakes, b.out, b.stakes), "calls of stakes", b)
	}
	for _, n := range stakeNumbers {
		count, ok := impl.FacesOf(n)
		again, fine := impl.FacesOf(n)
		wantEqual(t, count == again && ok == fine, true, "FacesOf", n)
		for _, k := range stakeNumbers {
			wantEqual(t, callsOfTwoStakes(n, k), callsOfTwoStakes(n, k), "calls of two numbers", n, k)
		}
	}
	for _, a := range specialBits {
		for _, b := range specialBits {
			for _, c := range specialBits {
				x, y, z := number(a), number(b), number(c)
				wantEqual(t, callsOfChances(x, y, z), callsOfChances(x, y, z), "calls of chances", x, y, z)
			}
		}
	}
}

func TestNilAndEmptyHandsAreOneValue(t *testing.T) {
	empty := []int64{}
	wantEqual(t, callsOfHand(nil), callsOfHand(empty), "calls of no cards")
	wantEqual(t, callsOfDeal(nil, nil), callsOfDeal([][]int64{}, empty), "calls of no deal")
	hands := [][]int64{{0, 13}, {1, 14}}
	wantEqual(t, callsOfDeal(hands, nil), callsOfDeal(hands, empty), "calls of no board")
	wantEqual(t, callsOfDeal([][]int64{{0, 1}, nil}, counted(5)), callsOfDeal([][]int64{{0, 1}, {}}, counted(5)), "calls of an empty hand")
	wantEqual(t, callsOfStakes(nil, nil, nil), callsOfStakes(empty, []bool{}, empty), "calls of no stakes")
	stakes := []int64{4, 5}
	wantEqual(t, callsOfStakes(stakes, make([]bool, 2), nil), callsOfStakes(stakes, make([]bool, 2), empty), "calls of no values")
	values, ok := impl.BestShared(nil, 1)
	others, fine := impl.BestShared([][]int64{}, 1)
	wantEqual(t, ok && fine && len(values) == 0 && len(others) == 0, true, "BestShared of no hands", values, others)
}

func TestHandListsAreNotModified(t *testing.T) {
	for _, list := range handLists() {
		cards, whole := spare(list, 33)
		before := slices.Clone(whole)
		callsOfHand(cards)
		wantEqual(t, slices.Equal(whole, before), true, "a hand stays", list)
	}
	for _, c := range winCases {
		// Hands and the board stand one behind another in one memory.
		memory := slices.Concat(append(slices.Clone(c.hands), c.board)...)
		before := slices.Clone(memory)
		var hands [][]int64
		for i := range c.hands {
			hands = append(hands, memory[2*i:2*i+2])
		}
		board := memory[2*len(hands):]
		callsOfDeal(hands, board)
		callsOfDeal(hands, board[:2])
		callsOfDeal(hands, board[:3])
		impl.WinCounts(hands, board[:3])
		impl.BestShared([][]int64{memory[:5], memory[1:6], memory[2:]}, 2)
		wantEqual(t, slices.Equal(memory, before), true, "a deal stays", c.hands, c.board)
	}
	for _, c := range potCases {
		stakes, wholeStakes := spare(c.stakes, 5)
		out, wholeOut := spare(c.out, true)
		values, wholeValues := spare(slices.Repeat([]int64{8}, len(stakes)), 9)
		beforeStakes, beforeOut, beforeValues := slices.Clone(wholeStakes), slices.Clone(wholeOut), slices.Clone(wholeValues)
		callsOfStakes(stakes, out, values)
		same := slices.Equal(wholeStakes, beforeStakes) && slices.Equal(wholeOut, beforeOut) && slices.Equal(wholeValues, beforeValues)
		wantEqual(t, same, true, "stakes stay", c.stakes)
	}
}

func TestHandResultsAreNewMemory(t *testing.T) {
	five, stakes, out := []int64{40, 3, 17, 8, 22}, []int64{3, 9, 9}, make([]bool, 3)
	hands := [][]int64{{0, 13}, {1, 14}}
	calls := map[string]func() ([]int64, bool){
		"BestFive": func() ([]int64, bool) {
			best, _, ok := impl.BestFive(five)
			return best, ok
		},
		"BestShared": func() ([]int64, bool) { return impl.BestShared([][]int64{five, five}, 2) },
		"KindCounts": func() ([]int64, bool) { return impl.KindCounts(13, 4) },
		"OutsOf":     func() ([]int64, bool) { return impl.OutsOf(five, 371293) },
		"FaceOf":     func() ([]int64, bool) { return impl.FaceOf(five) },
		"SharePots":  func() ([]int64, bool) { return impl.SharePots(stakes, out, stakes) },
		"BlindSteps": func() ([]int64, bool) { return impl.BlindSteps(5, 2, 1, 4) },
	}
	for name, call := range calls {
		first, ok := call()
		want := slices.Clone(first)
		overwrite(first)
		second, fine := call()
		wantList(t, second, ok && fine, want, name)
		wantList(t, five, true, []int64{40, 3, 17, 8, 22}, name+" shares nothing with its argument")
		wantList(t, stakes, true, []int64{3, 9, 9}, name+" shares nothing with its argument")
	}
	pairs := map[string]func() ([]int64, []int64, bool){
		"SidePots": func() ([]int64, []int64, bool) { return impl.SidePots(stakes, out) },
		"WinCounts": func() ([]int64, []int64, bool) {
			ups, ties, _, ok := impl.WinCounts(hands, five)
			return ups, ties, ok
		},
		"DrawnWins": func() ([]int64, []int64, bool) {
			ups, ties, _, ok := impl.DrawnWins(hands, five, 1, 9)
			return ups, ties, ok
		},
	}
	for name, call := range pairs {
		one, two, ok := call()
		wantOne, wantTwo := slices.Clone(one), slices.Clone(two)
		overwrite(one)
		wantList(t, two, ok, wantTwo, name+" has two results that share nothing")
		overwrite(two)
		one, two, ok = call()
		wantList(t, one, ok, wantOne, name)
		wantList(t, two, ok, wantTwo, name)
		wantEqual(t, fmt.Sprint(hands, five, stakes, out), "[[0 13] [1 14]] [40 3 17 8 22] [3 9 9] [false false false]", name+" shares nothing with its arguments")
	}
}

func TestHandsAreSharedAtOnce(t *testing.T) {
	many := [][]int64{{0, 13, 26, 39, 1}, {12, 0, 1, 2, 16, 29}, {51, 50, 38, 37, 2, 3, 17}, {0, 1, 2, 3, 4}}
	want, _ := impl.BestShared(many, 1)
	wantSameAtOnce(t, want, func(workers int64) ([]int64, bool) { return impl.BestShared(many, workers) }, "BestShared at once")
}

func TestHugeHandsFail(t *testing.T) {
	huge := make([]int64, 1<<22)
	wantEqual(t, callsOfHand(huge), callsOfHand(nil), "calls of a huge hand")
	wantEqual(t, callsOfDeal(slices.Repeat([][]int64{huge}, 4), huge), callsOfDeal(nil, counted(5)), "calls of a huge deal")
	wantEqual(t, callsOfStakes(huge, make([]bool, 1<<22), huge), callsOfStakes(nil, nil, nil), "calls of huge stakes")
	values, ok := impl.BestShared(slices.Repeat([][]int64{counted(5)}, 1<<20), 8)
	wantNoList(t, values, ok, "BestShared of many hands")
}
