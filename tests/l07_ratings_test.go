package tests

import (
	"math"
	"slices"
	"testing"

	"loop.example/g01401/impl"
)

// The bits of these tables are computed by another program, which rounds each operation.

var expectCases = []struct{ a, b, scale, want uint32 }{
	{0x44bb8000, 0x44bb8000, 0x43c80000, 0x3f000000},
	{0x44d48000, 0x44bb8000, 0x432db7c1, 0x3f427ec6},
	{0x44bb8000, 0x44d48000, 0x432db7c1, 0x3e7604e7},
	{0x44be6ccd, 0x44c97666, 0x43c80000, 0x3ee3dbb4},
	{0x4516b4cd, 0x44947ccd, 0x43678000, 0x3f7eb57d},
	{0x00000000, 0x00000000, 0x3f800000, 0x3f000000},
	{0x80000000, 0x00000000, 0x3f800000, 0x3f000000},
	{0x3f800000, 0x40000000, 0x3f800000, 0x3e89b2b1},
	{0x40000000, 0x3f800000, 0x3f800000, 0x3f3b26a8},
	{0x3e99999a, 0x3dcccccd, 0x3f333333, 0x3f12298f},
	{0x00000000, 0x42ae0000, 0x3f800000, 0x00b33687},
	{0x00000000, 0x42b00000, 0x3f800000, 0x0041edc4},
	{0x00000000, 0x42b20000, 0x3f800000, 0x00000000},
	{0x00000000, 0x43480000, 0x3f800000, 0x00000000},
	{0x00000000, 0x43490000, 0x3f800000, 0x00000000},
	{0x42b00000, 0x00000000, 0x3f800000, 0x3f800000},
	{0x00000000, 0xc2d00000, 0x3f800000, 0x3f800000},
	{0x43490000, 0x00000000, 0x3f800000, 0x3f800000},
	{0x00000000, 0x417e6666, 0x3f800000, 0x34058abe},
	{0x41800000, 0x00000000, 0x3f800000, 0x3f7ffffe},
	{0x41900000, 0x00000000, 0x3f800000, 0x3f800000},
	{0x7f7fffff, 0xff7fffff, 0x3f800000, 0x3f800000},
	{0xff7fffff, 0x7f7fffff, 0x3f800000, 0x00000000},
	{0x7f7fffff, 0xff7fffff, 0x7f7fffff, 0x3f800000},
	{0xff7fffff, 0x7f7fffff, 0x7f7fffff, 0x00000000},
	{0x7f7fffff, 0x7f7fffff, 0x00000001, 0x3f000000},
	{0x3f800000, 0x3f800001, 0x00000001, 0x00000000},
	{0x3f800000, 0x40000000, 0x7f7fffff, 0x3f000000},
	{0x00000001, 0x00000000, 0x00000001, 0x3f3b26a8},
	{0x00000000, 0x00000001, 0x00000001, 0x3e89b2b1},
	{0xc47a0000, 0x447a0000, 0x41480000, 0x00000000},
}

func TestScoresAreExpected(t *testing.T) {
	for _, c := range expectCases {
		expected, ok := impl.ExpectOf(number(c.a), number(c.b), number(c.scale))
		wantEqual(t, ok, true, "ExpectOf succeeds", number(c.a), number(c.b), number(c.scale))
		wantNumber(t, expected, c.want, "ExpectOf", number(c.a), number(c.b), number(c.scale))
	}
	for _, bits := range notFinite {
		one, ok := impl.ExpectOf(number(bits), 1, 4)
		wantNoNumber(t, one, ok, "ExpectOf", number(bits), 1, 4)
		other, ok := impl.ExpectOf(1, number(bits), 4)
		wantNoNumber(t, other, ok, "ExpectOf", 1, number(bits), 4)
	}
	for _, bits := range notPositive {
		expected, ok := impl.ExpectOf(1, 1, number(bits))
		wantNoNumber(t, expected, ok, "ExpectOf", 1, 1, number(bits))
	}
}

func TestBothExpectOneTogether(t *testing.T) {
	for seed := range int64(500) {
		ratings, scale := luckyRatings(2, 77*seed), 1+float32(seed)
		one, ok := impl.ExpectOf(ratings[0], ratings[1], scale)
		other, fine := impl.ExpectOf(ratings[1], ratings[0], scale)
		wantEqual(t, ok && fine && near(float64(one)+float64(other), 1, 1e-6), true, "ExpectOf both", ratings, scale, one, other)
		wantEqual(t, one > other, one != other && ratings[0] > ratings[1], "ExpectOf the greater one", ratings, scale, one, other)
		half, ok := impl.ExpectOf(ratings[0], ratings[0], scale)
		wantEqual(t, ok && half == 0.5, true, "ExpectOf equal ratings", ratings[0], scale, half)
	}
}

var rateCases = []struct {
	players, count, seed int64
	scale, by            uint32
	want                 []uint32
}{
	{2, 0, 1234567891, 0x43c80000, 0x42000000,
		[]uint32{0x447e9500, 0x44c20e80}},
	{2, 1, 2469135782, 0x43c80000, 0x42000000,
		[]uint32{0x44e20979, 0x449fcb07}},
	{2, 128, 3703703673, 0x432db7c2, 0x41c00000,
		[]uint32{0x44a72a52, 0x449de5ae}},
	{3, 7, 643304268, 0x432db7c2, 0x41ff3333,
		[]uint32{0x44afe3f3, 0x44db2fce, 0x44b42c3f}},
	{4, 30, 1877872159, 0x42c80000, 0x3e99999a,
		[]uint32{0x448ffdd1, 0x44b98254, 0x44dbbf22, 0x44dba2b9}},
	{5, 12, 3112440050, 0x3f000000, 0x41200000,
		[]uint32{0x44f0d500, 0x44994d80, 0x44846500, 0x44d01a00, 0x44d91680}},
	{8, 60, 52040645, 0x4367b333, 0x418a6666,
		[]uint32{0x44d1a6c9, 0x44dc7fe7, 0x44a4bc1b, 0x44bef95e, 0x449ca2f5, 0x44a59fad, 0x44bfe028, 0x44cc710d}},
	{6, 20, 1286608536, 0x447a0000, 0x00000000,
		[]uint32{0x44bb1900, 0x44d22080, 0x44c61580, 0x44afb180, 0x44c21800, 0x44f51c80}},
	{9, 40, 2521176427, 0x0da24260, 0x4141999a,
		[]uint32{0x44a17e34, 0x44b4a1ff, 0x44e3324d, 0x44a6f9ce, 0x44eb9c32, 0x44d9c433, 0x44dec2e6, 0x44e347b3, 0x44b1f234}},
	{7, 40, 3755744318, 0x7149f2ca, 0x40f66666,
		[]uint32{0x44864e99, 0x44906966, 0x448d4acd, 0x4492c433, 0x44a24cb4, 0x44bb0acd, 0x44eb9c80}},
	{16, 128, 695344913, 0x432db7c2, 0x42206666,
		[]uint32{0x44c512a1, 0x44c694ac, 0x44bb9470, 0x449c4627, 0x44c09b60, 0x44a4bb58, 0x449b5836, 0x4490b30c, 0x4492f794, 0x44ceaa50, 0x44bdd9d4, 0x44aaecfe, 0x44b42b8f, 0x44ace84c, 0x44a1d4ac, 0x44b88fe4}},
}

func TestGamesAreRated(t *testing.T) {
	for _, c := range rateCases {
		ratings, games := luckyRatings(c.players, c.seed), luckyGames(c.players, c.count, c.seed)
		rated, ok := impl.RateGames(ratings, games, number(c.scale), number(c.by))
		wantBits(t, rated, ok, c.want, "RateGames", ratings, games, number(c.scale), number(c.by))
	}
	for _, c := range []struct {
		games []impl.Game
		want  []float32
	}{
		{gamesOf(0, 1, 2), []float32{1.25, 0.75}}, {gamesOf(0, 1, 1), []float32{1, 1}}, {gamesOf(0, 1, 0), []float32{0.75, 1.25}},
		{gamesOf(1, 0, 2), []float32{0.75, 1.25}}, {nil, []float32{1, 1}},
	} {
		rated, ok := impl.RateGames([]float32{1, 1}, c.games, 4, 0.5)
		wantEqual(t, ok && sameList(rated, c.want), true, "RateGames of equal ratings", c.games, rated)
	}
	// Nothing is won by 0, with whichever sign.
	for _, by := range []uint32{zeroBits, negZeroBits} {
		rated, ok := impl.RateGames([]float32{3, 1, 2}, gamesOf(0, 1, 2, 2, 0, 2), 1, number(by))
		wantEqual(t, ok && sameList(rated, []float32{3, 1, 2}), true, "RateGames by 0", rated)
	}
}

func TestRatingsKeepTheirSum(t *testing.T) {
	eachGames(func(players int64, games []impl.Game) {
		ratings := luckyRatings(players, int64(len(games)))
		rated, ok := impl.RateGames(ratings, games, 173.7178, 32)
		wantEqual(t, ok && near(sumOfNumbers(rated), sumOfNumbers(ratings), 0.1), true, "RateGames keeps the sum", ratings, games, rated)
		for i := range players {
			idle := !slices.ContainsFunc(games, func(g impl.Game) bool { return g.A == i || g.B == i })
			wantEqual(t, !idle || rated[i] == ratings[i], true, "RateGames keeps ratings without games", i, ratings, games, rated)
		}
		// One game behind another is as all of them at once.
		half, one := impl.RateGames(ratings, games[:len(games)/2], 173.7178, 32)
		whole, two := impl.RateGames(half, games[len(games)/2:], 173.7178, 32)
		wantEqual(t, one && two && sameList(whole, rated), true, "RateGames in two parts", ratings, games)
	})
}

func TestRatingsFail(t *testing.T) {
	fail := func(ratings []float32, games []impl.Game, scale, by float32) {
		rated, ok := impl.RateGames(ratings, games, scale, by)
		wantNoNumbers(t, rated, ok, "RateGames", ratings, games, scale, by)
		shared, ok := impl.RateShared(ratings, [][]impl.Game{games}, scale, by, 2)
		wantNoNumbers(t, shared, ok, "RateShared", ratings, games, scale, by)
	}
	good, played := []float32{1, 2, 3}, gamesOf(0, 1, 2)
	for _, games := range badGames() {
		fail(good, games, 4, 0.5)
	}
	for _, count := range []int{0, 1, 17, 1000} {
		fail(make([]float32, count), nil, 4, 0.5)
		fail(make([]float32, count), played, 4, 0.5)
	}
	for _, bits := range notFinite {
		for place := range good {
			fail(replaced(good, place, number(bits)), played, 4, 0.5)
			fail(replaced(good, place, number(bits)), nil, 4, 0.5)
		}
		fail(good, played, 4, number(bits))
		fail(good, nil, 4, number(bits))
	}
	for _, bits := range notPositive {
		fail(good, played, number(bits), 0.5)
		fail(good, nil, number(bits), 0.5)
	}
	for _, bits := range []uint32{0x80000001, 0xbf000000, 0xff7fffff} {
		fail(good, played, 4, number(bits))
		fail(good, nil, 4, number(bits))
	}
	// Ratings that do not stay finite, at the end or on the way.
	most := float32(math.MaxFloat32)
	fail([]float32{most, most}, gamesOf(0, 1, 2), 4, most)
	fail([]float32{-most, -most}, gamesOf(0, 1, 2), 4, most)
	fail([]float32{most, most}, gamesOf(0, 1, 2, 1, 0, 2), 4, most)
	kept, ok := impl.RateGames([]float32{most, most}, gamesOf(0, 1, 1), 4, most)
	wantBits(t, kept, ok, []uint32{mostBits, mostBits}, "RateGames of the greatest ratings")
}

// manyGames returns lists of games, the first one without games.
func manyGames(players, count int64) [][]impl.Game {
	var many [][]impl.Game
	for i := range count {
		many = append(many, luckyGames(players, 18*i, 1000*i))
	}
	return many
}

func TestRatingsAreShared(t *testing.T) {
	for count := range int64(9) {
		players := count + 2
		ratings, many := luckyRatings(players, count), manyGames(players, count)
		var want []float32
		for _, games := range many {
			rated, ok := impl.RateGames(ratings, games, 200, 32)
			wantEqual(t, ok, true, "RateGames succeeds", ratings, games)
			want = append(want, rated[0])
		}
		for workers := int64(1); workers <= 8; workers++ {
			shared, ok := impl.RateShared(ratings, many, 200, 32, workers)
			wantEqual(t, ok && sameList(shared, want), true, "RateShared", count, workers, shared, want)
		}
	}
	ratings, many := luckyRatings(3, 5), manyGames(3, 8)
	for _, workers := range []int64{math.MinInt64, -1, 0, 9, 1 << 32, 1<<32 + 1, math.MaxInt64} {
		shared, ok := impl.RateShared(ratings, many, 200, 32, workers)
		wantNoNumbers(t, shared, ok, "RateShared by workers", workers)
	}
	for _, count := range []int64{9, 100} {
		shared, ok := impl.RateShared(ratings, make([][]impl.Game, count), 200, 32, 2)
		wantNoNumbers(t, shared, ok, "RateShared of too many lists", count)
	}
	for place := range many {
		for _, bad := range badGames() {
			shared, ok := impl.RateShared(ratings, replaced(many, place, bad), 200, 32, 3)
			wantNoNumbers(t, shared, ok, "RateShared with a list that is bad", place, bad)
		}
	}
}

func TestNoListsAreRated(t *testing.T) {
	for _, many := range [][][]impl.Game{nil, {}} {
		for _, bits := range specialBits {
			x := number(bits)
			for _, ratings := range [][]float32{nil, {}, {1}, {1, 2}, {x, x}, make([]float32, 17)} {
				shared, ok := impl.RateShared(ratings, many, x, -x, 2)
				wantEqual(t, ok && len(shared) == 0, true, "RateShared of no lists", ratings, x, shared)
			}
		}
		for _, workers := range []int64{math.MinInt64, -1, 0, 1, 8, 9, math.MaxInt64} {
			shared, ok := impl.RateShared(nil, many, 0, 0, workers)
			wantEqual(t, ok && len(shared) == 0, true, "RateShared of no lists by any workers", workers, shared)
		}
	}
}
