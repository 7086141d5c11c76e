package tests

import (
	"math"
	"slices"
	"testing"

	"loop.example/g01401/impl"
)

// chanceNumbers are integers at which rules of chapter 4 change, and some far from all of them.
var chanceNumbers = []int64{math.MinInt64, -1 << 32, -1, 0, 1, 2, 3, 6, 7, 8, 9, 10, 11, 12, 13, 15, 16, 20, 21, 40, 41, 60, 61, 1000, 1001,
	1000000, 1000001, 1 << 32, math.MaxInt64}

func callsOfNumber(n int64) string {
	streaks, one := impl.StreakCounts(n)
	mean, of, two := impl.CouponMean(n)
	least, three := impl.BirthdayLeast(n)
	return told(streaks, one, mean, of, two, least, three)
}

func callsOfTwoNumbers(n, k int64) string {
	time, one := impl.FairTime(n, k)
	streak, two := impl.StreakCount(n, k)
	coupons, three := impl.CouponCounts(n, k)
	miss, days, four := impl.BirthdayMiss(n, k)
	match, decks, five := impl.MatchChance(n, k)
	ahead, votes, six := impl.BallotChance(n, k)
	ways, seven := impl.BallotWays(n, k, false)
	ties, eight := impl.BallotWays(n, k, true)
	mean, balls, nine := impl.UrnMean(n, k)
	return told(time, one, streak, two, coupons, three, miss, days, four, match, decks, five, ahead, votes, six, ways, seven, ties, eight, mean, balls, nine)
}

func callsOfThreeNumbers(a, b, c int64) string {
	ruin, of, one := impl.RuinChance(a, b, c, 10)
	other, under, two := impl.RuinChance(1, a, b, c)
	row, whole, three := impl.PurseRow(a, b, 1, 2, c)
	runs, four := impl.RunWays(a, b, c)
	chance, sets, five := impl.UrnChance(a, b, c, 1)
	back, power, six := impl.UrnBack(a, 3, b, c)
	grown, all, seven := impl.UrnGrows(2, a, b, 6, c)
	added, rows, eight := impl.UrnGrows(a, 1, 1, b, c)
	return told(ruin, of, one, other, under, two, row, whole, three, runs, four, chance, sets, five, back, power, six, grown, all, seven, added, rows, eight)
}

func callsOfWord(word []int64, n int64) string {
	borders, one := impl.WordBorders(word)
	wait, two := impl.WordWait(word, n)
	over, under, three := impl.WordRace(word, []int64{0, 1, 0}, n)
	free, four := impl.WordFree(word, n, 10)
	rows, five := impl.WordFree(word, 2, n)
	rival, six := impl.BestRival(word)
	waits, seven := impl.WaitsShared([][]int64{word, word}, n, 2)
	shared, eight := impl.WaitsShared([][]int64{word}, 3, n)
	return told(impl.IsWord(word, n), borders, one, wait, two, over, under, three, free, four, rows, five, rival, six, waits, seven, shared, eight)
}

func callsOfGrowth(a, b, c float32) string {
	growth, one := impl.GrowthOf(a, b, c)
	share, two := impl.BestShare(a, b)
	return told(growth, one, share, two)
}

// wordLists returns words, and lists that are none.
func wordLists() [][]int64 {
	return slices.Concat(badWords, allWords(2, 1), allWords(2, 2), allWords(2, 3),
		[][]int64{chanceNumbers, {5, 4, 3, 2, 1, 0}, {1, 0, 1, 0, 1, 0, 1, 0}, {0, 0, 0, 0, 1, 0, 0, 0, 0}, slices.Repeat([]int64{2, 3, 2}, 4)})
}

func TestChanceCallsReturnEqualResults(t *testing.T) {
	for _, a := range chanceNumbers {
		wantEqual(t, callsOfNumber(a), callsOfNumber(a), "calls of a number", a)
		for _, b := range chanceNumbers {
			wantEqual(t, callsOfTwoNumbers(a, b), callsOfTwoNumbers(a, b), "calls of two numbers", a, b)
			for _, c := range chanceNumbers {
				wantEqual(t, callsOfThreeNumbers(a, b, c), callsOfThreeNumbers(a, b, c), "calls of three numbers", a, b, c)
			}
		}
		for _, word := range wordLists() {
			wantEqual(t, callsOfWord(word, a), callsOfWord(slices.Clone(word), a), "calls of a word", word, a)
		}
	}
	for _, a := range specialBits {
		for _, b := range specialBits {
			for _, c := range specialBits {
				x, y, z := number(a), number(b), number(c)
				wantEqual(t, callsOfGrowth(x, y, z), callsOfGrowth(x, y, z), "calls of growth", x, y, z)
			}
		}
	}
}

func TestNilAndEmptyWordsAreOneValue(t *testing.T) {
	empty := []int64{}
	for _, n := range chanceNumbers {
		wantEqual(t, callsOfWord(nil, n), callsOfWord(empty, n), "calls of no word", n)
	}
	for _, word := range wordLists() {
		over, under, ok := impl.WordRace(word, nil, 2)
		other, below, fine := impl.WordRace(word, empty, 2)
		wantEqual(t, told(over, under, ok), told(other, below, fine), "WordRace before no word", word)
	}
	waits, ok := impl.WaitsShared(nil, 2, 1)
	others, fine := impl.WaitsShared([][]int64{}, 2, 1)
	wantEqual(t, told(waits, ok), told(others, fine), "WaitsShared of no words")
}

func TestWordListsAreNotModified(t *testing.T) {
	for _, list := range wordLists() {
		word, whole := spare(list, 1)
		before := slices.Clone(whole)
		other, wholeOther := spare([]int64{1, 1, 0}, 0)
		beforeOther := slices.Clone(wholeOther)
		for _, n := range []int64{0, 1, 2, 3, 6, 20} {
			callsOfWord(word, n)
			impl.WordRace(other, word, n)
			impl.WordRace(word, other, n)
		}
		wantEqual(t, slices.Equal(whole, before) && slices.Equal(wholeOther, beforeOther), true, "words stay", list)
	}
	// Words that stand one behind another in one memory.
	memory := []int64{1, 0, 0, 1, 1, 0, 1, 0}
	before := slices.Clone(memory)
	for from := range memory {
		for to := from; to <= len(memory); to++ {
			part, rest := memory[from:to], memory[to:]
			callsOfWord(part, 2)
			impl.WordRace(part, rest, 2)
			impl.WordRace(rest, part, 2)
			impl.WaitsShared([][]int64{part, rest, memory}, 2, 3)
		}
	}
	wantEqual(t, slices.Equal(memory, before), true, "words in one memory stay", memory)
}

func TestChanceResultsAreNewMemory(t *testing.T) {
	word := []int64{1, 0, 1, 1}
	words := [][]int64{word, word}
	calls := map[string]func() ([]int64, bool){
		"PurseRow": func() ([]int64, bool) {
			row, _, ok := impl.PurseRow(1, 3, 1, 2, 2)
			return row, ok
		},
		"StreakCounts": func() ([]int64, bool) { return impl.StreakCounts(5) },
		"CouponCounts": func() ([]int64, bool) { return impl.CouponCounts(3, 4) },
		"WordBorders":  func() ([]int64, bool) { return impl.WordBorders(word) },
		"BestRival":    func() ([]int64, bool) { return impl.BestRival(word) },
		"WaitsShared":  func() ([]int64, bool) { return impl.WaitsShared(words, 2, 2) },
	}
	for name, call := range calls {
		first, ok := call()
		want := slices.Clone(first)
		overwrite(first)
		second, fine := call()
		wantList(t, second, ok && fine, want, name)
		wantList(t, word, true, []int64{1, 0, 1, 1}, name+" shares nothing with its argument")
	}
}

func TestWordsAreSharedAtOnce(t *testing.T) {
	words := allWords(2, 4)
	want, _ := impl.WaitsShared(words, 6, 1)
	wantSameAtOnce(t, want, func(workers int64) ([]int64, bool) { return impl.WaitsShared(words, 6, workers) }, "WaitsShared at once")
}

func TestHugeWordsFail(t *testing.T) {
	huge := make([]int64, 1<<22)
	wantEqual(t, callsOfWord(huge, 2), callsOfWord(nil, 2), "calls of a huge word")
	over, under, ok := impl.WordRace([]int64{1}, huge, 2)
	wantNoFraction(t, over, under, ok, "WordRace before a huge word")
	waits, ok := impl.WaitsShared(slices.Repeat([][]int64{{0}}, 1<<20), 2, 8)
	wantNoList(t, waits, ok, "WaitsShared of many words")
}
