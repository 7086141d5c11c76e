package tests

import (
	"math/big"
	"slices"
	"testing"

	"loop.example/g01401/impl"
)

func TestPursesComeToTheirAim(t *testing.T) {
	// These are computed by another program, which solves equations.
	cases := []struct{ purse, aim, p, q, over, under int64 }{
		{1, 3, 2, 3, 4, 7},
		{5, 10, 9, 10, 59049, 59050},
		{9, 10, 1, 10, 48427561, 435848050},
		{1, 10, 1, 10, 1, 435848050},
		{1, 10, 9, 10, 387420489, 435848050},
		{3, 7, 2, 5, 304, 2059},
		{3, 7, 4, 10, 304, 2059},
		{7, 10, 3, 8, 1025163, 4853288},
		{4, 9, 5, 10, 4, 9},
		{0, 10, 1, 2, 0, 1},
		{0, 10, 9, 10, 0, 1},
		{10, 10, 1, 2, 1, 1},
		{0, 1, 3, 7, 0, 1},
		{1, 1, 3, 7, 1, 1},
	}
	for _, c := range cases {
		over, under, ok := impl.RuinChance(c.purse, c.aim, c.p, c.q)
		wantFraction(t, over, under, ok, c.over, c.under, "RuinChance", c)
	}
}

// purseGames calls look with all purses, aims and chances there are.
func purseGames(look func(purse, aim, p, q int64)) {
	for q := int64(2); q <= 10; q++ {
		for p := int64(1); p < q; p++ {
			for aim := int64(1); aim <= 10; aim++ {
				for purse := int64(0); purse <= aim; purse++ {
					look(purse, aim, p, q)
				}
			}
		}
	}
}

// TestRuinIsThatOfOneStepMore checks each purse against those that it can have behind one step,
// and, as one who loses has won for the other side, that both chances add up to one.
func TestRuinIsThatOfOneStepMore(t *testing.T) {
	chance := func(purse, aim, p, q int64) *big.Rat {
		over, under, ok := impl.RuinChance(purse, aim, p, q)
		wantEqual(t, ok && isShare(over, under), true, "RuinChance is a chance", purse, aim, p, q, over, under)
		return big.NewRat(over, max(under, 1))
	}
	purseGames(func(purse, aim, p, q int64) {
		here := chance(purse, aim, p, q)
		both := new(big.Rat).Add(here, chance(aim-purse, aim, q-p, q))
		wantEqual(t, both.Cmp(big.NewRat(1, 1)), 0, "RuinChance of both sides", purse, aim, p, q)
		if purse == 0 || purse == aim {
			wantEqual(t, here.Cmp(big.NewRat(purse/aim, 1)), 0, "RuinChance at an end", purse, aim, p, q)
			return
		}
		won := new(big.Rat).Mul(big.NewRat(p, q), chance(purse+1, aim, p, q))
		lost := new(big.Rat).Mul(big.NewRat(q-p, q), chance(purse-1, aim, p, q))
		wantEqual(t, here.Cmp(won.Add(won, lost)), 0, "RuinChance behind a step", purse, aim, p, q)
	})
}

// badPurses are purses, aims and parts that are none, for a purse of 2, an aim of 3, and 1 of 4 parts.
var badPurses = [][]int64{{-1, 4, 11}, {0, 1, 11, -3}, {0, 4, 5, -1}, {0, 1, 11, -4}}

func TestRuinFails(t *testing.T) {
	without([]int64{2, 3, 1, 4}, badPurses, func(a []int64) {
		over, under, ok := impl.RuinChance(a[0], a[1], a[2], a[3])
		wantNoFraction(t, over, under, ok, "RuinChance", a)
	})
	for _, a := range [][]int64{{0, 0, 1, 2}, {11, 11, 1, 2}, {0, 11, 1, 2}, {0, 1, 1, 1}, {0, 1, 2, 2}, {0, 1, 0, 0}, {0, -1, 1, 2}, {-1, -1, 1, 2}, {1, 1, 1, 11}, {1, 1, 10, 11}} {
		over, under, ok := impl.RuinChance(a[0], a[1], a[2], a[3])
		wantNoFraction(t, over, under, ok, "RuinChance", a)
		row, whole, ok := impl.PurseRow(a[0], a[1], a[2], a[3], 2)
		wantNothing(t, ok, [][]int64{row}, []int64{whole}, "PurseRow", a)
	}
}

func TestPursesAreTold(t *testing.T) {
	// These are computed by another program.
	cases := []struct {
		purse, aim, p, q, steps int64
		row                     []int64
		whole                   int64
	}{
		{1, 2, 1, 3, 1, []int64{2, 0, 1}, 3},
		{5, 10, 1, 10, 12, []int64{984154920750, 11837848275, 0, 3467652525, 0, 478296900, 0, 42810525, 0, 1804275, 16666750}, 1000000000000},
		{5, 10, 9, 10, 12, []int64{16666750, 1804275, 0, 42810525, 0, 478296900, 0, 3467652525, 0, 11837848275, 984154920750}, 1000000000000},
		{3, 4, 2, 5, 5, []int64{999, 0, 432, 0, 1694}, 3125},
		{1, 1, 1, 2, 12, []int64{0, 4096}, 4096},
		{0, 3, 1, 2, 4, []int64{16, 0, 0, 0}, 16},
		{3, 3, 1, 2, 4, []int64{0, 0, 0, 16}, 16},
		{2, 6, 3, 7, 0, []int64{0, 0, 1, 0, 0, 0, 0}, 1},
		{0, 1, 4, 9, 1, []int64{9, 0}, 9},
		{0, 10, 4, 9, 0, []int64{1, 0, 0, 0, 0, 0, 0, 0, 0, 0, 0}, 1},
		{1, 2, 5, 10, 2, []int64{50, 0, 50}, 100}, // they are not divided by common factors
	}
	for _, c := range cases {
		row, whole, ok := impl.PurseRow(c.purse, c.aim, c.p, c.q, c.steps)
		wantList(t, row, ok, c.row, "PurseRow", c)
		wantInteger(t, whole, ok, c.whole, "PurseRow's whole", c)
	}
	without([]int64{2, 3, 1, 4, 5}, append(slices.Clone(badPurses), []int64{-1, 13}), func(a []int64) {
		row, whole, ok := impl.PurseRow(a[0], a[1], a[2], a[3], a[4])
		wantNothing(t, ok, [][]int64{row}, []int64{whole}, "PurseRow", a)
	})
}

// plainPurses counts what a purse can have, by all rows of q ways to go on, p of which win, at each step.
func plainPurses(purse, aim, p, q, steps int64, row []int64) {
	if steps == 0 {
		row[purse]++
		return
	}
	for way := range q {
		next := purse
		if purse > 0 && purse < aim {
			next--
			if way < p {
				next += 2
			}
		}
		plainPurses(next, aim, p, q, steps-1, row)
	}
}

func TestPursesAddUp(t *testing.T) {
	purseGames(func(purse, aim, p, q int64) {
		for steps := int64(0); steps <= 12; steps++ {
			row, whole, ok := impl.PurseRow(purse, aim, p, q, steps)
			power := new(big.Int).Exp(big.NewInt(q), big.NewInt(steps), nil)
			wantInteger(t, whole, ok, power.Int64(), "PurseRow's whole", purse, aim, p, q, steps)
			wantEqual(t, len(row) == int(aim)+1 && sumOf(row) == whole && slices.Min(row) >= 0, true, "PurseRow adds up", purse, aim, p, q, steps, row)
			if q <= 4 && steps <= 5 {
				want := make([]int64, aim+1)
				plainPurses(purse, aim, p, q, steps, want)
				wantList(t, row, ok, want, "PurseRow", purse, aim, p, q, steps)
			}
		}
	})
}

func TestFairGamesTakeTime(t *testing.T) {
	time := func(purse, aim int64) int64 {
		steps, ok := impl.FairTime(purse, aim)
		wantEqual(t, ok, true, "FairTime succeeds", purse, aim)
		return steps
	}
	for _, aim := range []int64{1, 2, 3, 4, 10, 11, 99, 999, 1000} {
		wantEqual(t, time(0, aim), 0, "FairTime of nothing", aim)
		wantEqual(t, time(aim, aim), 0, "FairTime of all", aim)
		for purse := int64(1); purse < aim; purse++ {
			// One step, and the mean of both purses behind it.
			wantEqual(t, 2*time(purse, aim), 2+time(purse-1, aim)+time(purse+1, aim), "FairTime behind a step", purse, aim)
		}
	}
	wantEqual(t, time(2, 5), 6, "FairTime", 2, 5)
	wantEqual(t, time(500, 1000), 250000, "FairTime", 500, 1000)
	without([]int64{3, 5}, [][]int64{{-1, 6, 1000}, {2, 0, -5, 1001}}, func(a []int64) {
		steps, ok := impl.FairTime(a[0], a[1])
		wantNoInteger(t, steps, ok, "FairTime", a)
	})
	for _, a := range [][2]int64{{0, 0}, {0, 1001}, {1001, 1001}, {0, -1}, {-1, -1}} {
		steps, ok := impl.FairTime(a[0], a[1])
		wantNoInteger(t, steps, ok, "FairTime", a)
	}
}
