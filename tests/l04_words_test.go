package tests

import (
	"math"
	"math/big"
	"slices"
	"testing"

	"loop.example/g01401/impl"
)

// badWords are lists that are no words, of however many symbols.
var badWords = [][]int64{nil, {}, {-1}, {6}, {0, 6}, {0, -1, 1}, {0, 1, 0, math.MaxInt64}, {math.MinInt64, 0}, {1 << 32}, make([]int64, 13), make([]int64, 1000)}

// badSymbols are numbers of symbols of which there are no words.
var badSymbols = append([]int64{0, 1, 7, -6, 12}, farNumbers...)

func TestWordsAreTold(t *testing.T) {
	for symbols := int64(2); symbols <= 6; symbols++ {
		for top := int64(0); top <= 6; top++ {
			for long := 1; long <= 14; long++ {
				word := make([]int64, long)
				word[long/2] = top
				wantEqual(t, impl.IsWord(word, symbols), top < symbols && long <= 12, "IsWord", word, symbols)
			}
		}
		for _, word := range badWords {
			wantEqual(t, impl.IsWord(word, symbols), false, "IsWord", word, symbols)
		}
	}
	for _, symbols := range badSymbols {
		wantEqual(t, impl.IsWord([]int64{0}, symbols), false, "IsWord", symbols)
	}
	wantEqual(t, impl.MaxWord == 12 && impl.MaxSymbols == 6 && impl.MaxTrials == 60 && impl.MaxUrn == 40, true, "limits of chapter 4")
}

// plainBorders returns the lengths with which a list begins as it ends, by moving it along itself.
func plainBorders(word []int64) []int64 {
	var lengths []int64
	for long := 1; long <= len(word); long++ {
		same := true
		for i := range long {
			same = same && word[i] == word[len(word)-long+i]
		}
		if same {
			lengths = append(lengths, int64(long))
		}
	}
	return lengths
}

func TestBordersAreTold(t *testing.T) {
	cases := []struct{ word, want []int64 }{
		{[]int64{1, 0, 1}, []int64{1, 3}},
		{[]int64{5}, []int64{1}},
		{[]int64{5, 5, 5}, []int64{1, 2, 3}},
		{[]int64{0, 1, 2, 3, 4, 5}, []int64{6}},
		{[]int64{0, 1, 0, 1, 0}, []int64{1, 3, 5}},
		{[]int64{1, 0, 0, 1, 0, 0, 1, 0, 0, 1, 0, 0}, []int64{3, 6, 9, 12}},
		{[]int64{2, 1, 2, 2, 1, 2}, []int64{1, 3, 6}},
		{slices.Repeat([]int64{3}, 12), []int64{1, 2, 3, 4, 5, 6, 7, 8, 9, 10, 11, 12}},
	}
	for _, c := range cases {
		borders, ok := impl.WordBorders(c.word)
		wantList(t, borders, ok, c.want, "WordBorders", c.word)
	}
	for long := 1; long <= 12; long++ {
		for _, word := range allWords(2, long) {
			borders, ok := impl.WordBorders(word)
			wantList(t, borders, ok, plainBorders(word), "WordBorders", word)
		}
	}
	for _, word := range badWords {
		borders, ok := impl.WordBorders(word)
		wantNoList(t, borders, ok, "WordBorders", word)
	}
}

// solved returns the first one of numbers that solve as many equations: each row has how often each number is in a sum, and then the sum.
func solved(rows [][]*big.Rat) *big.Rat {
	n := len(rows)
	for at := range n {
		from := at
		for rows[from][at].Sign() == 0 {
			from++
		}
		rows[at], rows[from] = rows[from], rows[at]
		by := new(big.Rat).Inv(rows[at][at])
		for _, x := range rows[at] {
			x.Mul(x, by)
		}
		for other := range n {
			if other == at || rows[other][at].Sign() == 0 {
				continue
			}
			times := new(big.Rat).Set(rows[other][at])
			for i, x := range rows[other] {
				x.Sub(x, new(big.Rat).Mul(times, rows[at][i]))
			}
		}
	}
	return rows[0][n]
}

// awaitedWords returns how many symbols it takes in the mean until one of words has come, and how likely it is the first one of them.
// It solves equations for all beginnings of words with which a row can end.
func awaitedWords(words [][]int64, symbols int64) (mean, first *big.Rat) {
	// Whole words stand behind all other beginnings, which are those that a row can go on from.
	ends := slices.Clone(words)
	for _, word := range words {
		for long := range word {
			if placeOf(ends, word[:long]) < 0 {
				ends = slices.Insert(ends, len(ends)-len(words), word[:long])
			}
		}
	}
	open := len(ends) - len(words)
	var means, firsts [][]*big.Rat
	for i, end := range ends[:open] {
		row := make([]int64, len(ends))
		row[i] = symbols
		for symbol := range symbols {
			next := append(slices.Clone(end), symbol)
			for placeOf(ends, next) < 0 {
				next = next[1:]
			}
			row[placeOf(ends, next)]--
		}
		means = append(means, rats(append(slices.Clone(row[:open]), symbols)))
		firsts = append(firsts, rats(append(slices.Clone(row[:open]), -row[open])))
	}
	return solved(means), solved(firsts)
}

// placeOf returns the place of a list in lists, or -1.
func placeOf(lists [][]int64, list []int64) int {
	return slices.IndexFunc(lists, func(other []int64) bool { return slices.Equal(other, list) })
}

func rats(list []int64) []*big.Rat {
	var numbers []*big.Rat
	for _, x := range list {
		numbers = append(numbers, big.NewRat(x, 1))
	}
	return numbers
}

func TestWordsAreAwaited(t *testing.T) {
	cases := []struct {
		word          []int64
		symbols, want int64
	}{
		{[]int64{1, 1}, 2, 6},
		{[]int64{1, 0}, 2, 4},
		{[]int64{1, 0}, 3, 9},
		{[]int64{0}, 2, 2},
		{[]int64{5}, 6, 6},
		{[]int64{1, 0, 1, 0, 1}, 2, 42},
		{[]int64{2, 1, 0, 2, 1, 0, 2}, 3, 2271},
		{[]int64{0, 1, 2, 3, 4, 5}, 6, 46656},
		{[]int64{0, 0, 1, 0, 0, 1, 0, 0, 1, 0, 0, 1}, 4, 17043520},
		{slices.Repeat([]int64{1}, 12), 2, 8190},
		{slices.Repeat([]int64{0, 1}, 6), 6, 2238976116},
		{slices.Repeat([]int64{5}, 12), 6, 2612138802},
	}
	for _, c := range cases {
		wait, ok := impl.WordWait(c.word, c.symbols)
		wantInteger(t, wait, ok, c.want, "WordWait", c.word, c.symbols)
	}
	for symbols := int64(2); symbols <= 3; symbols++ {
		for long := 1; long <= int(7-symbols); long++ {
			for _, word := range allWords(symbols, long) {
				for more := symbols; more <= 6; more += 2 {
					mean, _ := awaitedWords([][]int64{word}, more)
					wait, ok := impl.WordWait(word, more)
					wantEqual(t, ok && mean.Cmp(big.NewRat(wait, 1)) == 0, true, "WordWait", word, more, wait, mean)
				}
			}
		}
	}
	for _, word := range append(slices.Clone(badWords), []int64{3}, []int64{0, 1, 3, 2}) {
		wait, ok := impl.WordWait(word, 3)
		wantNoInteger(t, wait, ok, "WordWait", word)
	}
	for _, symbols := range badSymbols {
		wait, ok := impl.WordWait([]int64{0}, symbols)
		wantNoInteger(t, wait, ok, "WordWait", symbols)
	}
}

func TestWordsRaceInAllPairs(t *testing.T) {
	words := slices.Concat(allWords(2, 1), allWords(2, 2), allWords(2, 3), allWords(2, 4), allWords(3, 2), [][]int64{{2}, {0, 2, 1}, {1, 0, 1, 1, 0}, {2, 0, 2, 0}})
	for _, a := range words {
		for _, b := range words {
			for symbols := int64(2); symbols <= 4; symbols++ {
				over, under, ok := impl.WordRace(a, b, symbols)
				if plainHas(a, b) || plainHas(b, a) || slices.Max(a) >= symbols || slices.Max(b) >= symbols {
					wantNoFraction(t, over, under, ok, "WordRace", a, b, symbols)
					continue
				}
				_, first := awaitedWords([][]int64{a, b}, symbols)
				wantRat(t, over, under, ok, first, "WordRace", a, b, symbols)
				wantEqual(t, isShare(over, under), true, "WordRace is a chance", a, b, symbols)
				other, of, ok := impl.WordRace(b, a, symbols)
				wantFraction(t, other, of, ok, under-over, under, "WordRace of both adds up", b, a, symbols)
			}
		}
	}
}

func TestWordsRace(t *testing.T) {
	sixes, turns := slices.Repeat([]int64{5}, 12), slices.Repeat([]int64{0, 1}, 6)
	// These are computed by another program, which solves equations.
	cases := []struct {
		a, b                 []int64
		symbols, over, under int64
	}{
		{[]int64{0, 1, 1}, []int64{1, 1, 1}, 2, 7, 8},
		{[]int64{1}, []int64{0}, 2, 1, 2},
		{[]int64{0}, []int64{5}, 6, 1, 2},
		{[]int64{1}, []int64{0, 0}, 2, 3, 4},
		{[]int64{0, 0, 1}, []int64{1, 0}, 2, 1, 4},
		{[]int64{0, 1, 2}, []int64{2, 0, 1}, 3, 3, 7},
		{[]int64{0, 1, 2}, []int64{2, 2}, 3, 1, 3},
		{[]int64{1, 1, 0, 1}, []int64{0, 1, 1}, 2, 1, 8},
		{[]int64{0, 1, 0, 1, 0}, []int64{1, 1}, 4, 5, 278},
		{sixes, make([]int64, 12), 6, 1, 2},
		{slices.Concat(sixes[1:], []int64{0}), sixes, 6, 1, 2},
		{slices.Concat([]int64{0}, sixes[1:]), sixes, 6, 435356467, 725594112},
		{turns, slices.Concat(turns[1:11], []int64{1, 1}), 2, 683, 1138},
	}
	for _, c := range cases {
		over, under, ok := impl.WordRace(c.a, c.b, c.symbols)
		wantFraction(t, over, under, ok, c.over, c.under, "WordRace", c)
		over, under, ok = impl.WordRace(c.b, c.a, c.symbols)
		wantFraction(t, over, under, ok, c.under-c.over, c.under, "WordRace", c)
	}
	// Words in words: as a beginning, an end, a part between them, and a whole.
	inside := []struct{ part, word []int64 }{
		{[]int64{1}, []int64{1, 1}},
		{[]int64{1, 0}, []int64{1, 0, 0}},
		{[]int64{1, 0}, []int64{1, 1, 0}},
		{[]int64{1, 0}, []int64{0, 1, 0, 1}},
		{[]int64{0, 1, 1}, []int64{1, 0, 1, 1, 0}},
		{[]int64{0, 1, 1}, []int64{0, 1, 1}},
		{turns, slices.Clone(turns)},
		{turns[3:10], turns},
	}
	for _, c := range inside {
		over, under, ok := impl.WordRace(c.part, c.word, 2)
		wantNoFraction(t, over, under, ok, "WordRace of a word in a word", c.part, c.word)
		over, under, ok = impl.WordRace(c.word, c.part, 2)
		wantNoFraction(t, over, under, ok, "WordRace of a word around a word", c.word, c.part)
	}
	for _, word := range append(slices.Clone(badWords), []int64{3}, []int64{1, 3, 1}) {
		over, under, ok := impl.WordRace(word, []int64{0, 0}, 3)
		wantNoFraction(t, over, under, ok, "WordRace", word)
		over, under, ok = impl.WordRace([]int64{0, 0}, word, 3)
		wantNoFraction(t, over, under, ok, "WordRace", word)
	}
	for _, symbols := range badSymbols {
		over, under, ok := impl.WordRace([]int64{0}, []int64{1}, symbols)
		wantNoFraction(t, over, under, ok, "WordRace", symbols)
	}
}

func TestRivalsComeFirst(t *testing.T) {
	// These are computed by another program, which solves equations.
	cases := []struct{ word, rival []int64 }{
		{[]int64{0, 0, 0}, []int64{1, 0, 0}}, {[]int64{0, 0, 1}, []int64{1, 0, 0}}, {[]int64{0, 1, 0}, []int64{0, 0, 1}}, {[]int64{0, 1, 1}, []int64{0, 0, 1}},
		{[]int64{1, 0, 0}, []int64{1, 1, 0}}, {[]int64{1, 0, 1}, []int64{1, 1, 0}}, {[]int64{1, 1, 0}, []int64{0, 1, 1}}, {[]int64{1, 1, 1}, []int64{0, 1, 1}},
		{[]int64{0, 0, 1, 0}, []int64{0, 0, 0, 1}}, {[]int64{0, 1, 0, 0}, []int64{1, 0, 1, 0}}, {[]int64{0, 1, 0, 1}, []int64{0, 0, 1, 0}},
		{[]int64{1, 0, 1, 0}, []int64{1, 1, 0, 1}}, {[]int64{1, 0, 1, 1}, []int64{0, 1, 0, 1}}, {[]int64{1, 1, 0, 1}, []int64{1, 1, 1, 0}},
		{[]int64{1, 0, 1, 0, 1}, []int64{1, 1, 0, 1, 0}}, {[]int64{0, 0, 1, 1, 0, 0}, []int64{0, 0, 0, 1, 1, 0}},
		{[]int64{1, 0, 0, 1, 0, 0, 1}, []int64{1, 1, 0, 0, 1, 0, 0}}, {[]int64{1, 0, 1, 0, 1, 0, 1, 0}, []int64{1, 1, 0, 1, 0, 1, 0, 1}},
		{[]int64{0, 1, 1, 0, 1, 1, 0, 1}, []int64{0, 0, 1, 1, 0, 1, 1, 0}}, {[]int64{0, 0, 0, 0, 0, 0, 0, 0}, []int64{1, 0, 0, 0, 0, 0, 0, 0}},
		{[]int64{0, 0, 0, 0, 1, 0, 0, 0}, []int64{0, 0, 0, 0, 0, 1, 0, 0}}, {[]int64{1, 1, 0, 1, 0, 0, 1, 0}, []int64{1, 1, 1, 0, 1, 0, 0, 1}},
	}
	for _, c := range cases {
		rival, ok := impl.BestRival(c.word)
		wantList(t, rival, ok, c.rival, "BestRival", c.word)
	}
	for long := 3; long <= 8; long++ {
		words := allWords(2, long)
		for i := 0; i < len(words); i += 1 + len(words)/40 {
			wantFirstRival(t, words[i], words)
		}
	}
	for _, word := range append(slices.Clone(badWords), []int64{1}, []int64{1, 0}, []int64{0, 1, 2}, []int64{0, -1, 1}, make([]int64, 9), make([]int64, 12)) {
		rival, ok := impl.BestRival(word)
		wantNoList(t, rival, ok, "BestRival", word)
	}
}

// wantFirstRival tells whether no word comes before a word more likely than its rival, and none that stands ahead as likely.
func wantFirstRival(t *testing.T, word []int64, words [][]int64) {
	t.Helper()
	rival, ok := impl.BestRival(word)
	wantEqual(t, ok && len(rival) == len(word) && !slices.Equal(rival, word), true, "BestRival is another word", word, rival)
	over, under, _ := impl.WordRace(rival, word, 2)
	best := big.NewRat(over, max(under, 1))
	ahead := true
	for _, other := range words {
		ahead = ahead && !slices.Equal(other, rival)
		if slices.Equal(other, word) {
			continue
		}
		over, under, _ := impl.WordRace(other, word, 2)
		sign := big.NewRat(over, max(under, 1)).Cmp(best)
		wantEqual(t, sign < 0 || sign == 0 && !ahead, true, "BestRival is the first best one", word, rival, other)
	}
}

func TestRowsWithoutWordsAreCounted(t *testing.T) {
	for symbols := int64(2); symbols <= 4; symbols++ {
		for trials := range int(14 - 2*symbols) {
			rows := allWords(symbols, trials)
			for long := 1; long <= int(7-symbols); long++ {
				for _, word := range allWords(min(symbols, 3), long) {
					want := int64(0)
					for _, row := range rows {
						if !plainHas(row, word) {
							want++
						}
					}
					count, ok := impl.WordFree(word, symbols, int64(trials))
					wantInteger(t, count, ok, want, "WordFree", word, symbols, trials)
				}
			}
		}
	}
}

func TestManyRowsWithoutWordsAreCounted(t *testing.T) {
	// These are computed by another program.
	cases := []struct {
		word                  []int64
		symbols, trials, want int64
	}{
		{[]int64{1, 1}, 2, 3, 5},
		{[]int64{1, 1}, 2, 60, 4052739537881},
		{[]int64{1, 0}, 2, 60, 61},
		{[]int64{0}, 2, 60, 1},
		{[]int64{1, 0, 1}, 2, 60, 572360547759276},
		{slices.Repeat([]int64{1}, 12), 2, 60, 1145896685055223552},
		{slices.Repeat([]int64{0, 1}, 6), 2, 60, 1142463674115299680},
		{[]int64{0, 1, 0, 1, 0, 0}, 2, 40, 616889226049},
		{[]int64{1, 0, 0, 1, 0, 0, 1, 0, 0, 1, 0, 0}, 2, 50, 1116435578712576},
		{[]int64{2, 2}, 3, 38, 41584381386555392},
		{[]int64{0, 1, 2}, 3, 38, 310020756163394364},
		{[]int64{3}, 4, 30, 205891132094649},
		{[]int64{3, 0, 3}, 4, 30, 751348090163117304},
		{[]int64{4, 4, 4}, 5, 26, 1271644251018035200},
		{[]int64{5}, 6, 23, 11920928955078125},
		{[]int64{5, 0, 5, 0}, 6, 23, 777901523381790576},
		{[]int64{5, 0, 5, 0}, 6, 0, 1},
		{[]int64{0}, 2, 0, 1},
	}
	for _, c := range cases {
		count, ok := impl.WordFree(c.word, c.symbols, c.trials)
		wantInteger(t, count, ok, c.want, "WordFree", c)
	}
	for trials := int64(1); trials <= 60; trials++ {
		for long := int64(1); long <= min(trials, 12); long++ {
			free, one := impl.WordFree(slices.Repeat([]int64{1}, int(long)), 2, trials)
			streaks, two := impl.StreakCount(trials, long)
			wantEqual(t, one && two && free+streaks == 1<<trials, true, "words with a streak, and without one, add up", trials, long)
		}
	}
}

func TestWordFreeFails(t *testing.T) {
	// The greatest numbers of trials, by symbols: no more rows than 4000000000000000000.
	for symbols, most := range map[int64]int64{2: 60, 3: 38, 4: 30, 5: 26, 6: 23} {
		for trials := int64(-3); trials <= 70; trials++ {
			count, ok := impl.WordFree([]int64{0, 1, 1}, symbols, trials)
			if trials < 0 || trials > most {
				wantNoInteger(t, count, ok, "WordFree", symbols, trials)
				continue
			}
			wantEqual(t, ok && count >= 1, true, "WordFree succeeds", symbols, trials)
		}
		for _, trials := range farNumbers {
			count, ok := impl.WordFree([]int64{0}, symbols, trials)
			wantNoInteger(t, count, ok, "WordFree", symbols, trials)
		}
	}
	for _, word := range append(slices.Clone(badWords), []int64{3}, []int64{2, 3, 2}) {
		count, ok := impl.WordFree(word, 3, 4)
		wantNoInteger(t, count, ok, "WordFree", word)
	}
	for _, symbols := range badSymbols {
		count, ok := impl.WordFree([]int64{0}, symbols, 3)
		wantNoInteger(t, count, ok, "WordFree", symbols)
	}
}

func TestWaitsAreShared(t *testing.T) {
	words := slices.Concat(allWords(2, 3), allWords(2, 1), [][]int64{{2, 2}, {0, 2, 0, 2}, {2}, slices.Repeat([]int64{2}, 12), {1, 1, 0, 1, 1}, {2, 1}})
	var want []int64
	for _, word := range words {
		wait, _ := impl.WordWait(word, 3)
		want = append(want, wait)
	}
	wantEqual(t, len(words), 16, "the most words")
	for range 20 {
		for workers := int64(1); workers <= 8; workers++ {
			for long := 1; long <= len(words); long++ {
				waits, ok := impl.WaitsShared(words[:long], 3, workers)
				wantList(t, waits, ok, want[:long], "WaitsShared", long, workers)
			}
		}
	}
	waits, ok := impl.WaitsShared([][]int64{{1, 1}, {0}}, 2, 2)
	wantList(t, waits, ok, []int64{6, 2}, "WaitsShared")
	one := [][]int64{{0}}
	for _, many := range [][][]int64{nil, {}, append(slices.Clone(words), []int64{0}), slices.Repeat(one, 1000)} {
		waits, ok := impl.WaitsShared(many, 3, 2)
		wantNoList(t, waits, ok, "WaitsShared", len(many))
	}
	for _, word := range append(slices.Clone(badWords), []int64{3}) {
		for at := range 3 {
			many := [][]int64{{0}, {1}, {2}}
			many[at] = word
			waits, ok := impl.WaitsShared(many, 3, int64(at)+1)
			wantNoList(t, waits, ok, "WaitsShared", many)
		}
	}
	for _, workers := range append([]int64{0, -8, 9}, farNumbers...) {
		waits, ok := impl.WaitsShared(one, 3, workers)
		wantNoList(t, waits, ok, "WaitsShared", workers)
	}
	for _, symbols := range badSymbols {
		waits, ok := impl.WaitsShared(one, symbols, 2)
		wantNoList(t, waits, ok, "WaitsShared", symbols)
	}
}
