package tests

import (
	"math"
	"math/rand"
	"slices"
	"testing"

	"loop.example/g01401/impl"
)

// testedCounts have bits that are computed by another program, which rounds each operation.
var testedCounts = []struct {
	counts, weights []int64
	want            uint32
}{
	{[]int64{1, 3}, []int64{1, 1}, 0x3f800000},
	{[]int64{10, 12, 8}, []int64{1, 1, 1}, 0x3f4ccccd},
	{[]int64{16, 18, 22, 9, 20, 15}, slices.Repeat([]int64{1}, 6), 0x40c66667},
	{[]int64{1, 2, 3, 4}, []int64{4, 3, 2, 1}, 0x41415555},
	{[]int64{0, 0, 1}, []int64{1, 1, 1}, 0x3ffffffe},
	{[]int64{1, 0}, []int64{1, 1000}, 0x447a0002},
	{[]int64{0, 1}, []int64{1, 1000}, 0x3a83126e},
	{[]int64{1000000, 0}, []int64{1, 1}, 0x49742400},
	{slices.Repeat([]int64{1000000}, 64), slices.Repeat([]int64{1}, 64), 0x00000000},
	{[]int64{5, 5}, []int64{1000, 1000}, 0x00000000},
	{[]int64{2, 4, 6, 9, 12, 14, 11, 9, 7, 3, 1}, []int64{1, 2, 3, 4, 5, 6, 5, 4, 3, 2, 1}, 0x3fb13b15},
	{[]int64{7, 13, 29}, []int64{997, 991, 1000}, 0x417ae127},
	{[]int64{333333, 333334, 333333}, []int64{1, 1, 1}, 0x36064884},
	{append(slices.Repeat([]int64{1000000}, 63), 0), slices.Repeat([]int64{1}, 64), 0x49742400},
	{append(slices.Repeat([]int64{0}, 63), 1000000), append(slices.Repeat([]int64{1}, 63), 1000), 0x47761806},
	{append(slices.Repeat([]int64{1000000}, 16), 999999), append(slices.Repeat([]int64{1}, 16), 3), 0x49992fb8},
	{[]int64{637, 261}, []int64{760, 368}, 0x40a5a40c},
	{[]int64{814, 707, 965}, []int64{862, 758, 668}, 0x42dec2be},
	{[]int64{944, 542, 29, 860, 476}, []int64{795, 966, 256, 665, 54}, 0x4561d9fe},
	{[]int64{922, 160, 115, 380, 480, 889, 252, 389, 556, 104, 587, 255, 13, 748, 221, 417, 286}, []int64{187, 939, 889, 785, 399, 164, 781, 817, 74, 143, 633, 633, 456, 130, 136, 2, 996}, 0x47eeb232},
}

func TestCountsAreTested(t *testing.T) {
	for _, c := range testedCounts {
		far, ok := impl.TestCounts(c.counts, c.weights)
		wantEqual(t, ok, true, "TestCounts succeeds", c)
		wantNumber(t, far, c.want, "TestCounts", c.counts, c.weights)
	}
	draws := rand.New(rand.NewSource(57))
	for range 500 {
		n := 2 + draws.Intn(63)
		counts, weights := make([]int64, n), make([]int64, n)
		for i := range n {
			counts[i], weights[i] = draws.Int63n(1000001), 1+draws.Int63n(1000)
		}
		all, weight, near := float64(sumOf(counts)), float64(sumOf(weights)), 0.0
		for i := range n {
			due := all * float64(weights[i]) / weight
			near += (float64(counts[i]) - due) * (float64(counts[i]) - due) / due
		}
		far, ok := impl.TestCounts(counts, weights)
		wantEqual(t, ok && math.Abs(float64(far)-near) <= 1e-4*near, true, "TestCounts is near", counts, weights, far, near)
		far, ok = impl.TestCounts(weights, weights)
		wantEqual(t, ok && far >= 0 && far < 1e-3, true, "TestCounts of what is due", weights, far)
	}
}

func TestCountsThatAreNoneFail(t *testing.T) {
	wantNone := func(counts, weights []int64) {
		t.Helper()
		far, ok := impl.TestCounts(counts, weights)
		wantEqual(t, !ok && math.Float32bits(far) == 0, true, "TestCounts fails", counts, weights, far, ok)
	}
	wantNone(nil, nil)
	wantNone([]int64{}, []int64{})
	wantNone([]int64{3}, []int64{1})
	for n := 2; n <= 64; n++ {
		some := slices.Repeat([]int64{3}, n)
		wantNone(make([]int64, n), some)
		wantNone(some, make([]int64, n))
		wantNone(some, some[1:])
		wantNone(some[1:], some)
	}
	many := slices.Repeat([]int64{3}, 65)
	wantNone(many, many)
	without([]int64{4, 5, 6}, [][]int64{{-1, 1000001}, {-1, 1000001}, {-5, 1000001}}, func(counts []int64) {
		wantNone(counts, []int64{1, 2, 3})
	})
	without([]int64{4, 5, 6}, [][]int64{{0, -1, 1001}, {0, -5, 1001}, {0, -9, 1001}}, func(weights []int64) {
		wantNone([]int64{1, 2, 3}, weights)
	})
	wantNone([]int64{1, -1}, []int64{1, 1})
	wantNone([]int64{math.MaxInt64, math.MaxInt64}, []int64{1, 1})
}

func TestDiceAreRolled(t *testing.T) {
	six := plainSided(6)
	cases := []struct {
		dice       []impl.Die
		seed, then int64
		want       []int64
	}{
		// These are computed by another program.
		{diceOf([]int64{4}), 0, 1196435762, []int64{4, 4}},
		{diceOf([]int64{4}), 0, 1013904223, []int64{4}},
		{manyOf(six, 1), 0, 2768872580, []int64{2, 2, 5, 5, 3, 4, 3, 4, 4, 4, 5, 5, 4, 6, 1, 4, 5, 2, 3, 4}},
		{manyOf(six, 2), 1, 2282599509, []int64{5, 9, 4, 9, 5, 5, 10, 8, 8, 9}},
		{manyOf(six, 6), 4294967295, 2217407141, []int64{20, 25, 22, 25, 28}},
		{mixedDice, 20261119, 2136196399, []int64{30, 45, 27, 30, 22, 38, 16, 40}},
		{manyOf(plainSided(12), 1), 1 << 31, 1020336476, []int64{9, 10, 4, 3, 11, 2, 11, 2, 1, 1, 4, 3}},
	}
	for _, c := range cases {
		rolls, then, ok := impl.RollDice(c.dice, c.seed, int64(len(c.want)))
		wantList(t, rolls, ok, c.want, "RollDice", c.dice, c.seed)
		wantEqual(t, then, c.then, "the seed of RollDice", c.dice, c.seed)
	}
	rolls, then, ok := impl.RollDice(mixedDice, 7, 256)
	text := ""
	for i, roll := range rolls {
		if i > 0 {
			text += ","
		}
		text += impl.Decimal(roll)
	}
	check, _ := impl.CheckOf(0, text)
	wantEqual(t, told(len(rolls), check, then, ok), told(256, 13951, 1246889479, true), "RollDice of the most sums")
}

func TestRollsGoOn(t *testing.T) {
	draws := rand.New(rand.NewSource(61))
	for range 200 {
		dice, seed := drawDice(draws, 6, 12), draws.Int63n(1<<32)
		rolls, then, ok := impl.RollDice(dice, seed, 20)
		counts, _, _ := impl.SumCounts(dice)
		for _, roll := range rolls {
			wantEqual(t, roll >= 0 && roll < int64(len(counts)) && counts[max(roll, 0)%int64(len(counts))] > 0, true, "RollDice throws sums", dice, roll)
		}
		first, middle, one := impl.RollDice(dice, seed, 8)
		second, last, two := impl.RollDice(dice, middle, 12)
		wantList(t, rolls, ok && one && two && last == then, append(first, second...), "RollDice goes on", dice, seed)
	}
}

func TestRollsFail(t *testing.T) {
	d := manyOf(plainSided(6), 2)
	without([]int64{5, 4}, [][]int64{{-1, 1 << 32}, {0, -4, 257}}, func(a []int64) {
		if a[0] >= 0 && a[0] < 1<<32 && a[1] >= 1 && a[1] <= 256 {
			return // a seed may be far from all other numbers
		}
		rolls, seed, ok := impl.RollDice(d, a[0], a[1])
		wantNothing(t, ok, [][]int64{rolls}, []int64{seed}, "RollDice", a)
	})
	for _, dice := range badLists() {
		rolls, seed, ok := impl.RollDice(dice, 5, 4)
		wantNothing(t, ok, [][]int64{rolls}, []int64{seed}, "RollDice", dice)
	}
}
