package tests

import (
	"fmt"
	"math"
	"slices"
	"strings"
	"testing"

	"loop.example/g01401/impl"
)

// ratingNumbers are integers at which rules of chapter 7 change, and some far from all of them.
var ratingNumbers = []int64{math.MinInt64, -1 << 32, -2, -1, 0, 1, 2, 3, 4, 5, 8, 9, 15, 16, 17, 32, 33, 51, 52, 64, 65, 1000, 1001, 1 << 32, math.MaxInt64}

func callsOfGames(players int64, games []impl.Game, rounds int64) string {
	scores, a := impl.ScoresOf(players, games)
	met, b := impl.MetOf(players, games)
	sums, c := impl.BuchholzOf(players, games)
	strengths, d := impl.FitStrengths(players, games, rounds)
	return told(impl.AreGames(players, games), impl.SameGames(games, games), impl.SameGames(games, gamesOf(0, 1, 2)), scores, a, met, b, sums, c, strengths, d)
}

func callsOfRatings(ratings []float32, games []impl.Game, x float32, n int64) string {
	rated, a := impl.RateGames(ratings, games, x, 0.5)
	by, b := impl.RateGames(ratings, games, 2, x)
	shared, c := impl.RateShared(ratings, [][]impl.Game{games, nil}, 2, 0.5, n)
	others, d := impl.RateShared(ratings, [][]impl.Game{nil, games, gamesOf(1, 0, 2)}, x, x, 3)
	none, e := impl.RateShared(ratings, nil, x, x, n)
	like, f := impl.LikeOfGames(ratings, games)
	one, g := impl.PerformanceOf(ratings, x, 2, 5)
	scaled, h := impl.PerformanceOf(ratings, 0.5, x, n)
	chances, i := impl.KnockChances(ratings)
	return told(rated, a, by, b, shared, c, others, d, none, e, like, f, one, g, scaled, h, chances, i)
}

func callsOfThree(a, b, c float32) string {
	expected, one := impl.ExpectOf(a, b, c)
	rated, two := impl.RateGames([]float32{a, b}, gamesOf(0, 1, 2), 2, c)
	scaled, three := impl.RateGames([]float32{a, b}, gamesOf(1, 0, 1), c, 2)
	like, four := impl.LikeOfGames([]float32{a, b, c}, gamesOf(0, 1, 2, 2, 1, 1))
	rating, five := impl.PerformanceOf([]float32{a, 1}, b, c, 3)
	chances, six := impl.KnockChances([]float32{a, b, c, a})
	return told(expected, one, rated, two, scaled, three, like, four, rating, five, chances, six)
}

func callsOfScores(scores, others []int64) string {
	pairs, a := impl.SwissPairs(scores, others)
	order, b := impl.TieOrder(scores, others)
	return told(pairs, a, order, b)
}

func callsOfWinners(winners []bool, players int64) string {
	left, ok := impl.KnockRounds(winners, players)
	return told(left, ok)
}

func callsOfTests(tests []impl.Test, cards []int64, card int64) string {
	text, a := impl.TestText(tests)
	passes, b := impl.PassesTests(tests, card)
	count, c := impl.CountPassing(tests, cards)
	valid := []bool{impl.ValidTest(impl.Test{Field: card}), impl.ValidTest(impl.Test{Sign: card}), impl.ValidTest(impl.Test{Number: card})}
	return told(text, a, passes, b, count, c, valid)
}

func callsOfSaved(list []impl.Saved) string {
	all, ok := impl.StoreAll(list)
	results := []any{all, ok, impl.SameSaved(list, list), impl.SameSaved(list, nil)}
	for _, s := range list[:min(len(list), 20)] {
		stored, fine := impl.StoreSaved(s)
		results = append(results, stored, fine, impl.ValidSaved(s))
	}
	return told(results...)
}

func callsOfBytes(s string) string {
	tests, a := impl.ReadTests(s)
	loaded, b := impl.LoadSaved(s)
	list, size, c := impl.RecoverAll(s)
	return told(tests, a, loaded, b, list, size, c)
}

// someGames returns games, and lists that are none.
func someGames() [][]impl.Game {
	return append(badGames(), nil, gamesOf(0, 1, 2), gamesOf(0, 1, 2, 2, 1, 0, 1, 0, 1), luckyGames(3, 128, 5), luckyGames(16, 20, 6))
}

// someRatings returns ratings, chances and strengths, and lists that are none.
func someRatings() [][]float32 {
	return [][]float32{nil, {1}, {1, 2}, {0.5, 1, 1.5}, {1, 2, number(nanBits)}, {number(infBits), 2, 3}, luckyWins(2, 1), luckyWins(4, 2), luckyWins(8, 3), luckyRatings(3, 4), luckyRatings(16, 5),
		numbers(specialBits), make([]float32, 17), make([]float32, 1000)}
}

// someScores returns scores, and how often players have met or other scores, and lists that are none.
func someScores() [][2][]int64 {
	return [][2][]int64{{nil, nil}, {{0}, {0}}, {{1, 3, 2, 0}, metOf(4, 1, 2)}, {{1, 1, 2}, {0, 5, 0}}, {ratingNumbers[:16], ratingNumbers[1:17]},
		{counted(16), counted(16)}, {counted(16), make([]int64, 256)}, {{1, 1}, {0, 1, 1, 0}}, {{1, 1}, {0, 1, 0, 0}}, {make([]int64, 17), make([]int64, 17)}, {make([]int64, 1000), make([]int64, 1000)}, {{5, 1001}, {0, 0}}, {{5, -1}, {0, 0}}}
}

func someTests() [][]impl.Test {
	return append(badTestLists(), testsOf(0, 2, 9, 1, 0, 1), testsOf(2, 1, 3), make([]impl.Test, 6))
}

// someBytes returns texts of tests, what has been stored, and others.
func someBytes() []string {
	texts := append(badStored(), "", "rank>9&suit=1", "card<3", "rank>9&", "rank>09", strings.Repeat("\x00", 300), strings.Repeat("DCK1", 300), strings.Repeat("\xff", 300))
	for _, s := range someSaved()[:6] {
		stored := plainStore(s)
		texts = append(texts, stored, stored[:len(stored)-1], stored+"x", strings.Repeat(stored, 12))
	}
	return texts
}

func TestRatingCallsReturnEqualResults(t *testing.T) {
	for _, games := range someGames() {
		for _, n := range ratingNumbers {
			wantEqual(t, callsOfGames(n, games, 3), callsOfGames(n, slices.Clone(games), 3), "calls of games", n, games)
			wantEqual(t, callsOfGames(3, games, n), callsOfGames(3, slices.Clone(games), n), "calls of games in rounds", n, games)
		}
	}
	for i, ratings := range someRatings() {
		for _, bits := range specialBits {
			games, n := someGames()[i%40], ratingNumbers[int(bits>>8)%len(ratingNumbers)]
			wantEqual(t, callsOfRatings(ratings, games, number(bits), n), callsOfRatings(slices.Clone(ratings), games, number(bits), n), "calls of ratings", ratings, number(bits), n)
		}
		for _, n := range ratingNumbers {
			wantEqual(t, callsOfRatings(ratings, nil, 1, n), callsOfRatings(slices.Clone(ratings), nil, 1, n), "calls of ratings", ratings, n)
		}
	}
	for _, a := range specialBits {
		for _, b := range specialBits {
			for _, c := range []uint32{zeroBits, leastBits, oneBits, 0x40490fdb, mostBits, 0xbf800000, infBits, nanBits} {
				x, y, z := number(a), number(b), number(c)
				wantEqual(t, callsOfThree(x, y, z), callsOfThree(x, y, z), "calls of three numbers", x, y, z)
			}
		}
	}
	for _, p := range someScores() {
		wantEqual(t, callsOfScores(p[0], p[1]), callsOfScores(slices.Clone(p[0]), slices.Clone(p[1])), "calls of scores", p)
		for _, tests := range someTests() {
			for _, n := range ratingNumbers {
				wantEqual(t, callsOfTests(tests, p[0], n), callsOfTests(slices.Clone(tests), slices.Clone(p[0]), n), "calls of tests", tests, p[0], n)
			}
		}
	}
	for _, n := range ratingNumbers {
		for _, count := range []int{0, 1, 3, 7, 15, 16, 1000} {
			wantEqual(t, callsOfWinners(make([]bool, count), n), callsOfWinners(make([]bool, count), n), "calls of winners", count, n)
		}
	}
	for _, s := range append(badSaved(), someSaved()...) {
		again := savedOf(s.Name, slices.Clone(s.Deck), slices.Clone(s.Dice)...)
		wantEqual(t, callsOfSaved([]impl.Saved{s, s}), callsOfSaved([]impl.Saved{again, again}), "calls of what is saved", s)
	}
	for _, s := range someBytes() {
		wantEqual(t, callsOfBytes(s), callsOfBytes(strings.Clone(s)), "calls of bytes", []byte(s))
	}
}

// wantFinite tells whether a call that succeeds returns finite numbers only, and one that fails none.
func wantFinite(t *testing.T, list []float32, ok bool, what string, args ...any) {
	t.Helper()
	for _, x := range list {
		if !impl.IsFinite(x) || !ok && oneNaN(x) != zeroBits {
			t.Errorf("%s %v: got %v, %v", what, args, list, ok)
			return
		}
	}
}

func TestRatingResultsAreFinite(t *testing.T) {
	for _, a := range specialBits {
		for _, b := range specialBits {
			for _, c := range specialBits {
				x, y, z := number(a), number(b), number(c)
				one, ok := impl.ExpectOf(x, y, z)
				wantFinite(t, []float32{one}, ok, "ExpectOf", x, y, z)
				rated, ok := impl.RateGames([]float32{x, y}, gamesOf(0, 1, 2, 1, 0, 1), z, 3e37)
				wantFinite(t, rated, ok, "RateGames", x, y, z)
				like, ok := impl.LikeOfGames([]float32{x, y, z}, gamesOf(0, 1, 2, 2, 1, 1))
				wantFinite(t, []float32{like}, ok, "LikeOfGames", x, y, z)
				rating, ok := impl.PerformanceOf([]float32{x, y}, 1, z, 4)
				wantFinite(t, []float32{rating}, ok, "PerformanceOf", x, y, z)
			}
		}
	}
}

func TestNilAndEmptyRatingsAreOneValue(t *testing.T) {
	for _, n := range ratingNumbers {
		wantEqual(t, callsOfGames(n, nil, 3), callsOfGames(n, []impl.Game{}, 3), "calls of no games", n)
		wantEqual(t, callsOfGames(3, nil, n), callsOfGames(3, []impl.Game{}, n), "calls of no games in rounds", n)
		wantEqual(t, callsOfRatings(nil, nil, 1, n), callsOfRatings([]float32{}, []impl.Game{}, 1, n), "calls of no ratings", n)
		wantEqual(t, callsOfRatings([]float32{1, 2}, nil, 1, n), callsOfRatings([]float32{1, 2}, []impl.Game{}, 1, n), "calls of ratings without games", n)
		wantEqual(t, callsOfTests(nil, nil, n), callsOfTests([]impl.Test{}, []int64{}, n), "calls of no tests", n)
		wantEqual(t, callsOfTests(testsOf(2, 1, 3), nil, n), callsOfTests(testsOf(2, 1, 3), []int64{}, n), "calls of no cards", n)
		wantEqual(t, callsOfWinners(nil, n), callsOfWinners([]bool{}, n), "calls of no winners", n)
	}
	wantEqual(t, callsOfScores(nil, nil), callsOfScores([]int64{}, []int64{}), "calls of no scores")
	wantEqual(t, callsOfSaved(nil), callsOfSaved([]impl.Saved{}), "calls of nothing saved")
	stored, ok := impl.StoreSaved(impl.Saved{Name: "a", Deck: []int64{0}, Dice: []impl.Die{}})
	wantEqual(t, ok && stored == plainStore(savedOf("a", []int64{0})), true, "StoreSaved of no dice", stored)
}

func TestRatingArgumentsAreNotModified(t *testing.T) {
	for _, list := range someGames() {
		games, whole := spare(list, impl.Game{A: 1, B: 0, Result: 2})
		before := slices.Clone(whole)
		callsOfGames(3, games, 3)
		callsOfRatings(luckyRatings(3, 8), games, 2, 2)
		wantEqual(t, slices.Equal(whole, before), true, "games stay", list)
	}
	for _, list := range someRatings() {
		ratings, whole := spare(list, 0.5)
		before := slices.Clone(whole)
		for _, games := range [][]impl.Game{nil, gamesOf(0, 1, 2, 1, 0, 1)} {
			callsOfRatings(ratings, games, 2, 4)
		}
		wantEqual(t, sameList(whole, before), true, "ratings stay", list)
	}
	for _, p := range someScores() {
		scores, wholeOne := spare(p[0], 1)
		others, wholeTwo := spare(p[1], 1)
		before := fmt.Sprint(wholeOne, wholeTwo)
		callsOfScores(scores, others)
		callsOfTests(testsOf(2, 1, 3), scores, 1)
		wantEqual(t, fmt.Sprint(wholeOne, wholeTwo), before, "scores stay", p)
	}
	for _, list := range someTests() {
		tests, whole := spare(list, impl.Test{})
		before := slices.Clone(whole)
		callsOfTests(tests, counted(52), 5)
		wantEqual(t, slices.Equal(whole, before), true, "tests stay", list)
	}
	winners, whole := spare([]bool{true, false, true}, true)
	callsOfWinners(winners, 4)
	wantEqual(t, fmt.Sprint(whole), "[true false true true true true]", "winners stay")
	for _, s := range append(badSaved(), someSaved()...) {
		deck, wholeDeck := spare(s.Deck, 1)
		dice, wholeDice := spare(s.Dice, dieOf(3))
		for i, d := range dice {
			dice[i].Faces, _ = spare(d.Faces, 9)
		}
		list, wholeList := spare([]impl.Saved{savedOf(s.Name, deck, dice...), someSaved()[2]}, savedOf("x", nil))
		tell := func() string {
			faces := ""
			for _, d := range dice {
				faces += fmt.Sprint(d.Faces[:len(d.Faces)+3])
			}
			return fmt.Sprint(wholeDeck, wholeDice, wholeList, faces)
		}
		before := tell()
		callsOfSaved(list)
		wantEqual(t, tell(), before, "what is saved stays", s)
	}
}

func TestRatingListsAreNewMemory(t *testing.T) {
	ratings, wins, games := []float32{1, 2, 3}, luckyWins(4, 2), gamesOf(0, 1, 2)
	many := [][]impl.Game{games, nil}
	floats := map[string]func() ([]float32, bool){
		"RateGames":            func() ([]float32, bool) { return impl.RateGames(ratings, games, 4, 0.5) },
		"RateGames of no game": func() ([]float32, bool) { return impl.RateGames(ratings, nil, 4, 0.5) },
		"RateShared":           func() ([]float32, bool) { return impl.RateShared(ratings, many, 4, 0.5, 2) },
		"FitStrengths":         func() ([]float32, bool) { return impl.FitStrengths(3, games, 4) },
		"KnockChances":         func() ([]float32, bool) { return impl.KnockChances(wins) },
	}
	before := fmt.Sprint(ratings, wins, many)
	for name, call := range floats {
		first, ok := call()
		want := slices.Clone(first)
		wantEqual(t, ok && len(first) > 0, true, name)
		clear(first[:cap(first)])
		second, ok := call()
		wantEqual(t, ok && sameList(second, want), true, name+" again", second, want)
		wantEqual(t, fmt.Sprint(ratings, wins, many), before, name+" shares nothing with its arguments")
	}
	winners, scores, met := []bool{true, false, true}, []int64{1, 3, 2, 0}, metOf(4, 1, 2)
	calls := map[string]func() ([]int64, bool){
		"ScoresOf":    func() ([]int64, bool) { return impl.ScoresOf(3, games) },
		"MetOf":       func() ([]int64, bool) { return impl.MetOf(3, games) },
		"BuchholzOf":  func() ([]int64, bool) { return impl.BuchholzOf(3, games) },
		"KnockRounds": func() ([]int64, bool) { return impl.KnockRounds(winners, 4) },
		"SwissPairs":  func() ([]int64, bool) { return impl.SwissPairs(scores, met) },
		"TieOrder":    func() ([]int64, bool) { return impl.TieOrder(scores, scores) },
	}
	before = fmt.Sprint(games, winners, scores, met)
	for name, call := range calls {
		first, ok := call()
		want := slices.Clone(first)
		wantEqual(t, ok && len(first) > 0, true, name)
		overwrite(first)
		second, ok := call()
		wantList(t, second, ok, want, name+" again")
		wantEqual(t, fmt.Sprint(games, winners, scores, met), before, name+" shares nothing with its arguments")
	}
}

func TestLoadedListsAreNewMemory(t *testing.T) {
	saved := savedOf("ab", []int64{2, 0, 1}, dieOf(1, 2), dieOf(3))
	all := strings.Repeat(plainStore(saved), 3)
	got, _, _ := impl.RecoverAll(all)
	loaded, _ := impl.LoadSaved(plainStore(saved))
	got = append(got, loaded)
	for i := range got {
		// Each list of all that is loaded is overwritten once.
		lists := [][]int64{got[i].Deck, got[i].Dice[0].Faces, got[i].Dice[1].Faces}
		for k, list := range lists {
			overwrite(list)
			for _, later := range lists[k+1:] {
				wantEqual(t, slices.Contains(later, -5), false, "lists of what is loaded share nothing", i, k, later)
			}
		}
		clear(got[i].Dice[:cap(got[i].Dice)])
		for _, later := range got[i+1:] {
			wantEqual(t, isSame(later, saved), true, "what is loaded shares nothing", i, later)
		}
	}
	again, size, ok := impl.RecoverAll(all)
	wantEqual(t, ok && int(size) == len(all) && areSame(again, []impl.Saved{saved, saved, saved}), true, "RecoverAll again", again)
	tests, ok := impl.ReadTests("rank>9&suit=1")
	clear(tests[:cap(tests)])
	back, fine := impl.ReadTests("rank>9&suit=1")
	wantEqual(t, ok && fine && slices.Equal(back, testsOf(0, 2, 9, 1, 0, 1)), true, "ReadTests again", back)
}

func TestRatingsAreSharedAtOnce(t *testing.T) {
	ratings, many := luckyRatings(9, 4), manyGames(9, 8)
	want, _ := impl.RateShared(ratings, many, 200, 32, 1)
	wantEqual(t, len(want), 8, "RateShared by one worker")
	ranked := func(list []float32) []int64 {
		var bits []int64
		for _, x := range list {
			bits = append(bits, impl.BitsOf(x))
		}
		return bits
	}
	wantSameAtOnce(t, ranked(want), func(workers int64) ([]int64, bool) {
		shared, ok := impl.RateShared(ratings, many, 200, 32, workers)
		return ranked(shared), ok
	}, "RateShared at once")
}

func TestHugeRatingsFail(t *testing.T) {
	games, ratings, numbers := make([]impl.Game, 1<<20), make([]float32, 1<<22), make([]int64, 1<<22)
	wantEqual(t, callsOfGames(16, games, 3), callsOfGames(16, games[:129], 3), "calls of many games")
	wantEqual(t, impl.SameGames(games, games[1:]), false, "SameGames of many games")
	wantEqual(t, callsOfRatings(ratings, games, 1, 2), callsOfRatings(ratings[:17], games[:129], 1, 2), "calls of many ratings")
	wantEqual(t, callsOfScores(numbers, numbers), callsOfScores(nil, nil), "calls of many scores")
	wantEqual(t, callsOfTests(make([]impl.Test, 1<<20), numbers, 1), callsOfTests(nil, nil, 1), "calls of many tests")
	count, ok := impl.CountPassing(testsOf(2, 1, 3), numbers)
	wantNoInteger(t, count, ok, "CountPassing of many cards")
	wantEqual(t, callsOfWinners(make([]bool, 1<<22), 16), callsOfWinners(nil, 16), "calls of many winners")
	shared, ok := impl.RateShared([]float32{1, 1}, make([][]impl.Game, 1<<20), 4, 0.5, 8)
	wantNoNumbers(t, shared, ok, "RateShared of many lists")
	huge := savedOf(strings.Repeat("a", 1<<22), numbers, manyOf(dieOf(numbers...), 3)...)
	wantEqual(t, callsOfSaved([]impl.Saved{huge}), callsOfSaved([]impl.Saved{savedOf("", nil)}), "calls of what is huge")
	many := slices.Repeat([]impl.Saved{savedOf("a", []int64{0})}, 1<<16)
	stored, ok := impl.StoreAll(many)
	wantEqual(t, !ok && stored == "", true, "StoreAll of many", len(stored))
	wantEqual(t, impl.SameSaved(many, many[1:]), false, "SameSaved of many")
	wantRecovered(t, strings.Repeat(plainStore(many[0]), 1<<16), many[:8], 8*len(plainStore(many[0])), "many")
	for _, s := range []string{"\x00", "\xff", "DCK1", "rank>9&", "&", "9"} {
		text := strings.Repeat(s, 1<<20)
		tests, ok := impl.ReadTests(text)
		wantEqual(t, !ok && len(tests) == 0, true, "ReadTests of a huge text", s)
		wantNotLoaded(t, text, "huge", s)
		wantRecovered(t, text, nil, 0, "huge", s)
	}
}
