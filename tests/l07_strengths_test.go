package tests

import (
	"math"
	"slices"
	"testing"

	"loop.example/g01401/impl"
)

// The bits of these tables are computed by another program, which rounds each operation.

var fitCases = []struct {
	players, count, seed, rounds int64
	want                         []uint32
}{
	{2, 0, 1234567891, 1,
		[]uint32{0x3f800000, 0x3f800000}},
	{5, 0, 1234567891, 64,
		[]uint32{0x3f800000, 0x3f800000, 0x3f800000, 0x3f800000, 0x3f800000}},
	{2, 1, 2469135782, 1,
		[]uint32{0x3fc00000, 0x3f000000}},
	{2, 1, 2469135782, 2,
		[]uint32{0x3fcba2e8, 0x3ed1745b}},
	{2, 1, 2469135782, 64,
		[]uint32{0x3fce3f97, 0x3ec701aa}},
	{3, 2, 3703703673, 1,
		[]uint32{0x3faaaaab, 0x3f2aaaab, 0x3f800000}},
	{3, 4, 643304268, 3,
		[]uint32{0x3f819743, 0x3fd8414c, 0x3e989dc1}},
	{4, 9, 1877872159, 7,
		[]uint32{0x3f816aed, 0x3f7fbc54, 0x3f52387c, 0x3f959aac}},
	{5, 6, 3112440050, 64,
		[]uint32{0x401185bd, 0x3f18edec, 0x3f3db373, 0x3f967857, 0x3e595bfb}},
	{8, 40, 52040645, 20,
		[]uint32{0x3f81ee98, 0x3ef3e2fc, 0x3e5a75b1, 0x3f833365, 0x3f96abaf, 0x3fa03e89, 0x400abc04, 0x3f2c68a0}},
	{12, 3, 1286608536, 64,
		[]uint32{0x3ffb4302, 0x3f71d78b, 0x3f71d78b, 0x3f71d78b, 0x3f2bdc54, 0x3fe955e3, 0x3f71d78b, 0x3f01b58c, 0x3f71d78b, 0x3ed8af2c, 0x3f71d78b, 0x3f71d78b}},
	{16, 128, 2521176427, 64,
		[]uint32{0x3f4b05a1, 0x3f2db7dd, 0x3fb0633c, 0x3fc2ecd2, 0x3f632770, 0x3f439cc6, 0x3ecd6e15, 0x3f291cb0, 0x3fc9c484, 0x4012db1f, 0x3f4fcd21, 0x3f59252b, 0x3f4c9595, 0x3fbc76be, 0x3f3104fc, 0x3ed734cc}},
	{16, 128, 2521176427, 63,
		[]uint32{0x3f4b05a1, 0x3f2db7de, 0x3fb0633c, 0x3fc2ecd2, 0x3f632770, 0x3f439cc6, 0x3ecd6e16, 0x3f291cb0, 0x3fc9c484, 0x4012db1f, 0x3f4fcd21, 0x3f59252b, 0x3f4c9597, 0x3fbc76be, 0x3f3104fd, 0x3ed734cc}},
	{2, 128, 3755744318, 64,
		[]uint32{0x3f80ff01, 0x3f7e01fe}},
	{2, 1, 1929912804, 64,
		[]uint32{0x3f800000, 0x3f800000}},
	{3, 5, 3164480695, 2,
		[]uint32{0x3f165821, 0x3f4ce9f7, 0x3fce5ef5}},
	{6, 15, 104081290, 1,
		[]uint32{0x3faca827, 0x3f8fe176, 0x3ef6a714, 0x3e8cf1c3, 0x3fa992de, 0x3fb8fd4f}},
	{6, 15, 104081290, 2,
		[]uint32{0x3fc48a72, 0x3f990108, 0x3edcfcca, 0x3e544f3a, 0x3f956945, 0x3fbb4226}},
	{6, 15, 104081290, 33,
		[]uint32{0x40129ea0, 0x3fb659cc, 0x3eb8b91a, 0x3dcb7069, 0x3f01b70a, 0x3fa8a825}},
}

func TestStrengthsFit(t *testing.T) {
	for _, c := range fitCases {
		games := luckyGames(c.players, c.count, c.seed)
		strengths, ok := impl.FitStrengths(c.players, games, c.rounds)
		wantBits(t, strengths, ok, c.want, "FitStrengths", c.players, games, c.rounds)
	}
	eachGames(func(players int64, games []impl.Game) {
		for _, rounds := range []int64{1, 2, 64} {
			strengths, ok := impl.FitStrengths(players, games, rounds)
			wantEqual(t, ok && near(sumOfNumbers(strengths), float64(players), 1e-4), true, "FitStrengths keeps the sum", players, games, rounds, strengths)
			wantEqual(t, slices.Min(strengths) > 0, true, "FitStrengths are greater than 0", players, games, rounds, strengths)
		}
	})
}

func TestPlayersWithoutGamesAreAlike(t *testing.T) {
	for players := int64(2); players <= 16; players++ {
		none, ok := impl.FitStrengths(players, nil, 64)
		wantEqual(t, ok && sameList(none, slices.Repeat([]float32{1}, int(players))), true, "FitStrengths of no games", players, none)
		some, ok := impl.FitStrengths(players, gamesOf(1, 0, 2, 1, 0, 1), 64)
		wantEqual(t, ok && some[1] > some[0], true, "FitStrengths of one who wins", players, some)
		for _, strength := range some[2:] {
			wantEqual(t, impl.SameNumber(strength, some[2]) && strength < some[1] && strength > some[0], true, "FitStrengths of players without games", players, some)
		}
	}
}

func TestWhoScoresMoreIsStronger(t *testing.T) {
	// Where all have met as often, the order of strengths is that of scores.
	for seed := range int64(60) {
		l, players := luck(seed), 2+seed%7
		var games []impl.Game
		for i := range players {
			for k := range i {
				games = append(games, impl.Game{A: i, B: k, Result: l.below(3)}, impl.Game{A: k, B: i, Result: l.below(3)})
			}
		}
		strengths, one := impl.FitStrengths(players, games, 64)
		scores, two := impl.ScoresOf(players, games)
		for i := range players {
			for k := range players {
				wantEqual(t, one && two && (scores[i] <= scores[k] || strengths[i] > strengths[k]), true, "FitStrengths in the order of scores", games, strengths, scores)
			}
		}
	}
}

func TestStrengthsFail(t *testing.T) {
	for _, games := range badGames() {
		strengths, ok := impl.FitStrengths(3, games, 5)
		wantNoNumbers(t, strengths, ok, "FitStrengths", games)
	}
	for _, players := range badPlayers {
		strengths, ok := impl.FitStrengths(players, nil, 5)
		wantNoNumbers(t, strengths, ok, "FitStrengths", players)
	}
	for _, rounds := range []int64{math.MinInt64, -1, 0, 65, 1 << 32, 1<<32 + 1, math.MaxInt64} {
		strengths, ok := impl.FitStrengths(3, gamesOf(0, 1, 2), rounds)
		wantNoNumbers(t, strengths, ok, "FitStrengths in rounds", rounds)
	}
}

var likeCases = []struct {
	players, count, seed int64
	want                 uint32
}{
	{2, 0, 1234567891, 0x00000000},
	{2, 1, 2469135782, 0xbed18499},
	{2, 1, 3703703673, 0xbf16cb55},
	{2, 1, 643304268, 0xbf6567cf},
	{3, 2, 1877872159, 0xbfb9c54e},
	{4, 9, 3112440050, 0xc0e764e7},
	{7, 31, 52040645, 0xc1c4d839},
	{16, 128, 1286608536, 0xc2cd0bf8},
	{2, 128, 2521176427, 0xc2bc5554},
}

func TestGamesAreLike(t *testing.T) {
	for _, c := range likeCases {
		strengths, games := luckyStrengths(c.players, c.seed), luckyGames(c.players, c.count, c.seed)
		like, ok := impl.LikeOfGames(strengths, games)
		wantEqual(t, ok, true, "LikeOfGames succeeds", strengths, games)
		wantNumber(t, like, c.want, "LikeOfGames", strengths, games)
	}
	eachGames(func(players int64, games []impl.Game) {
		strengths := luckyStrengths(players, int64(len(games)))
		want := 0.0
		for _, g := range games {
			a, b := float64(strengths[g.A]), float64(strengths[g.B])
			share := float64(g.Result) / 2
			want += math.Log(math.Pow(a/(a+b), share) * math.Pow(b/(a+b), 1-share))
		}
		like, ok := impl.LikeOfGames(strengths, games)
		wantEqual(t, ok && near(float64(like), want, 1e-3) && like <= 0, true, "LikeOfGames", strengths, games, like, want)
	})
}

func TestFittedGamesAreMoreLike(t *testing.T) {
	eachGames(func(players int64, games []impl.Game) {
		strengths, one := impl.FitStrengths(players, games, 64)
		fitted, two := impl.LikeOfGames(strengths, games)
		even, three := impl.LikeOfGames(slices.Repeat([]float32{1}, int(players)), games)
		wantEqual(t, one && two && three && fitted >= even-1e-3, true, "LikeOfGames of strengths that fit", players, games, fitted, even)
	})
}

func TestLikeFails(t *testing.T) {
	fail := func(strengths []float32, games []impl.Game) {
		like, ok := impl.LikeOfGames(strengths, games)
		wantNoNumber(t, like, ok, "LikeOfGames", strengths, games)
	}
	good := []float32{1, 2, 3}
	for _, games := range badGames() {
		fail(good, games)
	}
	for _, count := range []int{0, 1, 17, 1000} {
		fail(slices.Repeat([]float32{1}, count), nil)
		fail(slices.Repeat([]float32{1}, count), gamesOf(0, 1, 2))
	}
	for _, bits := range notPositive {
		for place := range good {
			fail(replaced(good, place, number(bits)), gamesOf(0, 1, 2))
			fail(replaced(good, place, number(bits)), nil)
		}
	}
	// What cannot be has no logarithm that is finite.
	fail([]float32{number(leastBits), 1e38}, gamesOf(0, 1, 2))
	fail([]float32{number(leastBits), 1e38}, gamesOf(0, 1, 1))
	fail([]float32{math.MaxFloat32, math.MaxFloat32}, gamesOf(0, 1, 1))
	like, ok := impl.LikeOfGames([]float32{number(leastBits), 1e38, 1}, gamesOf(2, 1, 1))
	wantEqual(t, ok && near(float64(like), -43.75, 0.1), true, "LikeOfGames of others", like)
}

var performanceCases = []struct {
	players, seed int64
	score, scale  uint32
	rounds        int64
	want          uint32
}{
	{1, 1234567891, 0x3f000000, 0x432db7c2, 1, 0x447e9500},
	{1, 1234567891, 0x3f000000, 0x432db7c2, 32, 0x447e9500},
	{1, 2469135782, 0x00000000, 0x42c80000, 1, 0x44e12c80},
	{1, 2469135782, 0x00000000, 0x42c80000, 32, 0x447a5900},
	{1, 2469135782, 0x3f800000, 0x42c80000, 32, 0x45229640},
	{2, 3703703673, 0x3f800000, 0x432db7c2, 1, 0x44a28800},
	{2, 3703703673, 0x3f800000, 0x432db7c2, 2, 0x43e7e37c},
	{2, 3703703673, 0x3f800000, 0x432db7c2, 9, 0x44a1b6e2},
	{2, 3703703673, 0x3fa66666, 0x432db7c2, 20, 0x44b9b9ea},
	{5, 643304268, 0x40600000, 0x42b43333, 32, 0x44d77d04},
	{9, 1877872159, 0x3dcccccd, 0x43480000, 24, 0x4400d4b4},
	{9, 1877872159, 0x41100000, 0x43480000, 24, 0x456032bf},
	{16, 3112440050, 0x41480000, 0x432db7c2, 32, 0x44e62f34},
	{16, 3112440050, 0x41800000, 0x3c23d70a, 32, 0x44f1778e},
	{16, 3112440050, 0x00000000, 0x406ccccd, 31, 0x447a479a},
	{3, 52040645, 0x3f8ccccd, 0x0554ad2e, 32, 0x44d65700},
	{3, 52040645, 0x3f8ccccd, 0x7149f2ca, 32, 0xf0dcbf4c},
	{4, 1286608536, 0x40000000, 0x7cf0bdc2, 5, 0xfc70bdc2},
	{1, 1234567891, 0x80000000, 0x3f800000, 3, 0x447d1500},
}

func TestPerformanceIsTold(t *testing.T) {
	for _, c := range performanceCases {
		others := luckyRatings(c.players, c.seed)
		rating, ok := impl.PerformanceOf(others, number(c.score), number(c.scale), c.rounds)
		wantEqual(t, ok, true, "PerformanceOf succeeds", others, c)
		wantNumber(t, rating, c.want, "PerformanceOf", others, number(c.score), number(c.scale), c.rounds)
	}
	for seed := range int64(200) {
		count := 1 + seed%16
		others, scale := luckyRatings(count, 31*seed), float32(50+seed)
		score := float32(0.1) + float32(seed%13)/13*(float32(count)-0.2)
		rating, ok := impl.PerformanceOf(others, score, scale, 32)
		sum := 0.0
		for _, other := range others {
			expected, _ := impl.ExpectOf(rating, other, scale)
			sum += float64(expected)
		}
		wantEqual(t, ok && near(sum, float64(score), 0.001), true, "PerformanceOf expects the score", others, score, scale, rating, sum)
	}
}

func TestPerformanceFails(t *testing.T) {
	fail := func(others []float32, score, scale float32, rounds int64) {
		rating, ok := impl.PerformanceOf(others, score, scale, rounds)
		wantNoNumber(t, rating, ok, "PerformanceOf", others, score, scale, rounds)
	}
	good := []float32{1, 2, 3}
	for _, count := range []int{0, 17, 1000} {
		fail(make([]float32, count), 0, 1, 5)
	}
	for _, bits := range notFinite {
		for place := range good {
			fail(replaced(good, place, number(bits)), 1, 1, 5)
		}
	}
	for _, bits := range append([]uint32{0x80000001, 0xbf800000, 0x40400001, 0x40800000, mostBits}, notFinite...) {
		fail(good, number(bits), 1, 5)
	}
	for _, bits := range notPositive {
		fail(good, 1, number(bits), 5)
	}
	for _, rounds := range []int64{math.MinInt64, -1, 0, 33, 1 << 32, 1<<32 + 1, math.MaxInt64} {
		fail(good, 1, 1, rounds)
	}
	// Sums that are not finite.
	fail([]float32{math.MaxFloat32}, 0.5, 1, 1)
	fail([]float32{-math.MaxFloat32}, 0.5, 1, 1)
	fail([]float32{3e38}, 0.5, 1e38, 1)
	fail([]float32{0}, 0.5, 1e38, 1)
	fail([]float32{0}, 0.5, 5e37, 1)
	for _, score := range []float32{0, 3} {
		rating, ok := impl.PerformanceOf(good, score, 1, 32)
		wantEqual(t, ok && near(float64(rating), float64(score)/3*16-6, 2), true, "PerformanceOf the least and the greatest score", score, rating)
	}
}
