package tests

import (
	"math"
	"math/big"
	"math/rand"
	"slices"
	"testing"

	"loop.example/g01401/impl"
)

// potCases have stakes, who has given up, pots, and who can win them.
var potCases = []struct {
	stakes     []int64
	out        []bool
	pots, sets []int64
}{
	{[]int64{10, 30, 30, 20}, []bool{false, false, false, true}, []int64{40, 50}, []int64{7, 6}},
	{[]int64{5}, []bool{false}, []int64{5}, []int64{1}},
	{[]int64{1000000}, []bool{false}, []int64{1000000}, []int64{1}},
	{[]int64{7, 7}, []bool{false, false}, []int64{14}, []int64{3}},
	{[]int64{7, 4}, []bool{false, false}, []int64{8, 3}, []int64{3, 1}},
	{[]int64{7, 4}, []bool{true, false}, []int64{11}, []int64{2}}, // what is staked above goes to the last pot
	{[]int64{7, 4}, []bool{false, true}, []int64{11}, []int64{1}},
	{[]int64{0, 4, 9}, []bool{false, false, true}, []int64{13}, []int64{2}}, // a stake of 0 wins nothing
	{[]int64{1000000, 1, 1000000, 3, 2, 1000000}, []bool{true, false, true, false, false, true}, []int64{6, 5, 3000000 - 5}, []int64{26, 24, 8}},
	{[]int64{1, 2, 3, 4, 5, 6}, slices.Repeat([]bool{false}, 6), []int64{6, 5, 4, 3, 2, 1}, []int64{63, 62, 60, 56, 48, 32}},
	{[]int64{6, 2, 6, 2, 6, 2}, slices.Repeat([]bool{false}, 6), []int64{12, 12}, []int64{63, 21}},
	{[]int64{3, 8, 5, 8}, []bool{false, false, true, false}, []int64{12, 12}, []int64{11, 10}}, // who gave up at 5 makes no pot
}

func TestPotsAreTold(t *testing.T) {
	for _, c := range potCases {
		pots, sets, ok := impl.SidePots(c.stakes, c.out)
		wantList(t, pots, ok, c.pots, "SidePots", c.stakes, c.out)
		wantList(t, sets, ok, c.sets, "SidePots' sets", c.stakes, c.out)
	}
}

// badStakes are stakes, and who has given up, that are not as they must be.
var badStakes = []struct {
	stakes []int64
	out    []bool
}{
	{nil, nil}, {[]int64{}, []bool{}}, {nil, []bool{false}}, {[]int64{1}, nil}, {[]int64{1, 2}, []bool{false}}, {[]int64{1}, []bool{false, false}},
	{[]int64{1, 2, 3, 4, 5, 6, 7}, make([]bool, 7)}, {make([]int64, 1000), make([]bool, 1000)},
	{[]int64{1}, []bool{true}}, {[]int64{1, 2}, []bool{true, true}},
	{[]int64{0}, []bool{false}}, {[]int64{0, 5}, []bool{false, true}}, {[]int64{0, 0}, []bool{false, false}},
	{[]int64{-1, 5}, []bool{false, false}}, {[]int64{5, -1}, []bool{false, true}}, {[]int64{1000001}, []bool{false}}, {[]int64{5, 1000001}, []bool{false, true}},
	{[]int64{5, math.MinInt64}, []bool{false, false}}, {[]int64{math.MaxInt64, 5}, []bool{false, false}},
}

func TestPotsFail(t *testing.T) {
	for _, b := range badStakes {
		pots, sets, ok := impl.SidePots(b.stakes, b.out)
		wantNothing(t, ok, [][]int64{pots, sets}, nil, "SidePots", b.stakes, b.out)
		gets, ok := impl.SharePots(b.stakes, b.out, make([]int64, len(b.stakes)))
		wantNoList(t, gets, ok, "SharePots", b.stakes, b.out)
	}
	stakes, out := []int64{3, 4}, []bool{false, true}
	for _, values := range [][]int64{nil, {1}, {1, 2, 3}, {-1, 0}, {0, -1}, {10000001, 0}, {0, 10000001}, {math.MinInt64, 0}, {0, math.MaxInt64}} {
		gets, ok := impl.SharePots(stakes, out, values)
		wantNoList(t, gets, ok, "SharePots", values)
	}
}

func TestPotsAreShared(t *testing.T) {
	none := slices.Repeat([]bool{false}, 6)
	cases := []struct {
		stakes       []int64
		out          []bool
		values, gets []int64
	}{
		{[]int64{10, 30, 30, 20}, []bool{false, false, false, true}, []int64{9, 5, 5, 9}, []int64{40, 25, 25, 0}},
		{[]int64{5}, none[:1], []int64{0}, []int64{5}},
		{[]int64{5, 5, 5}, []bool{false, false, true}, []int64{4, 4, 9}, []int64{8, 7, 0}}, // one is left, for the first one
		{[]int64{5, 5, 4}, []bool{false, false, false}, []int64{4, 4, 4}, []int64{5, 5, 4}},
		{[]int64{1, 1, 3, 3, 3, 0}, []bool{true, true, false, false, false, false}, []int64{0, 0, 7, 7, 7, 7}, []int64{0, 0, 4, 4, 3, 0}},
		{[]int64{7, 4}, none[:2], []int64{0, 10000000}, []int64{3, 8}}, // what nobody else staked goes back
		{[]int64{7, 4}, none[:2], []int64{10000000, 0}, []int64{11, 0}},
		{[]int64{2, 3, 1, 3, 2, 3}, none, []int64{5, 3, 9, 3, 5, 1}, []int64{3, 2, 6, 1, 2, 0}},
	}
	for _, c := range cases {
		gets, ok := impl.SharePots(c.stakes, c.out, c.values)
		wantList(t, gets, ok, c.gets, "SharePots", c.stakes, c.out, c.values)
	}
}

// plainPots tells pots unit by unit: each unit that somebody staked goes to all who staked it, or to the last ones who have not given up.
func plainPots(stakes []int64, out []bool) ([]int64, []int64) {
	var pots, sets []int64
	for unit := int64(1); unit <= slices.Max(stakes); unit++ {
		count, in := int64(0), int64(0)
		for seat, stake := range stakes {
			if stake >= unit {
				count++
				if !out[seat] {
					in |= 1 << seat
				}
			}
		}
		if last := len(sets) - 1; in == 0 || last >= 0 && sets[last] == in {
			pots[last] += count
		} else {
			pots, sets = append(pots, count), append(sets, in)
		}
	}
	return pots, sets
}

func TestPotsHaveAllStakes(t *testing.T) {
	draws := rand.New(rand.NewSource(61))
	for range 4000 {
		n := 1 + draws.Intn(6)
		stakes, out, values := make([]int64, n), make([]bool, n), make([]int64, n)
		for seat := range n {
			stakes[seat], out[seat], values[seat] = draws.Int63n(12), draws.Intn(3) == 0, draws.Int63n(4)
		}
		stays := draws.Intn(n)
		out[stays] = false
		stakes[stays]++
		pots, sets, ok := impl.SidePots(stakes, out)
		wantPots, wantSets := plainPots(stakes, out)
		wantList(t, pots, ok, wantPots, "SidePots", stakes, out)
		wantList(t, sets, ok, wantSets, "SidePots' sets", stakes, out)
		wantEqual(t, sumOf(pots), sumOf(stakes), "pots have all stakes", stakes, out)
		gets, ok := impl.SharePots(stakes, out, values)
		wantEqual(t, ok && sumOf(gets) == sumOf(stakes), true, "SharePots gives all stakes", stakes, out, values, gets)
		wantList(t, gets, ok, plainShares(pots, sets, values), "SharePots", stakes, out, values)
	}
}

// plainShares gives each pot one by one to its best seats, round and round.
func plainShares(pots, sets, values []int64) []int64 {
	gets := make([]int64, len(values))
	for i, pot := range pots {
		most := int64(-1)
		for seat, value := range values {
			if sets[i]>>seat&1 == 1 {
				most = max(most, value)
			}
		}
		for pot > 0 {
			for seat, value := range values {
				if sets[i]>>seat&1 == 1 && value == most && pot > 0 {
					gets[seat]++
					pot--
				}
			}
		}
	}
	return gets
}

func TestBetsAreFractions(t *testing.T) {
	cases := []struct{ pot, bet, call, ofCall, bluff, ofBluff int64 }{
		{150, 50, 1, 4, 1, 5},
		{100, 50, 1, 3, 1, 4},
		{0, 1, 1, 1, 1, 2},
		{0, 1000000, 1, 1, 1, 2},
		{1000000, 1, 1, 1000001, 1, 1000002},
		{1000000, 1000000, 1, 2, 1, 3},
		{999999, 1000000, 1000000, 1999999, 1000000, 2999999},
		{6, 4, 2, 5, 2, 7},
		{9, 6, 2, 5, 2, 7},
		{3, 5, 5, 8, 5, 13},
	}
	for _, c := range cases {
		x, y, ok := impl.CallShare(c.pot, c.bet)
		wantEqual(t, ok && x == c.call && y == c.ofCall, true, "CallShare", c.pot, c.bet, x, y)
		x, y, ok = impl.BluffShare(c.pot, c.bet)
		wantEqual(t, ok && x == c.bluff && y == c.ofBluff, true, "BluffShare", c.pot, c.bet, x, y)
	}
	for pot := int64(0); pot <= 40; pot++ {
		for bet := int64(1); bet <= 40; bet++ {
			call, bluff := big.NewRat(bet, pot+bet), big.NewRat(bet, pot+2*bet)
			x, y, ok := impl.CallShare(pot, bet)
			wantEqual(t, ok && x == call.Num().Int64() && y == call.Denom().Int64(), true, "CallShare", pot, bet, x, y)
			x, y, ok = impl.BluffShare(pot, bet)
			wantEqual(t, ok && x == bluff.Num().Int64() && y == bluff.Denom().Int64(), true, "BluffShare", pot, bet, x, y)
		}
	}
	for _, b := range [][2]int64{{5, 0}, {0, 0}, {5, -1}, {5, 1000001}, {-1, 5}, {1000001, 5}, {math.MinInt64, 5}, {math.MaxInt64, 5}, {5, math.MinInt64}, {5, math.MaxInt64}} {
		x, y, ok := impl.CallShare(b[0], b[1])
		wantNothing(t, ok, nil, []int64{x, y}, "CallShare", b)
		x, y, ok = impl.BluffShare(b[0], b[1])
		wantNothing(t, ok, nil, []int64{x, y}, "BluffShare", b)
	}
}
