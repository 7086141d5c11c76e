package tests

import (
	"math"
	"math/rand"
	"slices"
	"strconv"
	"strings"
	"testing"

	"loop.example/g01401/impl"
)

// testsOf returns tests with Field, Sign and Number one behind the other.
func testsOf(numbers ...int64) []impl.Test {
	var tests []impl.Test
	for test := range slices.Chunk(numbers, 3) {
		tests = append(tests, impl.Test{Field: test[0], Sign: test[1], Number: test[2]})
	}
	return tests
}

// badTests are no tests, each for one reason.
var badTests = testsOf(-1, 0, 0, 3, 0, 0, 0, -1, 0, 0, 3, 0, 0, 0, -1, 0, 0, 52, math.MinInt64, 0, 0, math.MaxInt64, 0, 0, 0, math.MinInt64, 0,
	0, math.MaxInt64, 0, 0, 0, math.MinInt64, 0, 0, math.MaxInt64, 1<<32, 0, 0, 0, 1<<32, 0, 0, 0, 1<<32)

// badTestLists returns lists that are no tests.
func badTestLists() [][]impl.Test {
	lists := [][]impl.Test{nil, {}, make([]impl.Test, 7), make([]impl.Test, 1000)}
	for _, bad := range badTests {
		lists = append(lists, []impl.Test{bad}, append(testsOf(1, 0, 1), bad), append([]impl.Test{bad}, testsOf(1, 0, 1)...), replaced(make([]impl.Test, 6), 5, bad))
	}
	return lists
}

// allTests returns all tests there are.
func allTests() []impl.Test {
	var tests []impl.Test
	for field := range int64(3) {
		for sign := range int64(3) {
			for n := range int64(52) {
				tests = append(tests, impl.Test{Field: field, Sign: sign, Number: n})
			}
		}
	}
	return tests
}

// drawTests returns 1 to 6 tests.
func drawTests(draws *rand.Rand) []impl.Test {
	var tests []impl.Test
	for range 1 + draws.Intn(6) {
		tests = append(tests, impl.Test{Field: draws.Int63n(3), Sign: draws.Int63n(3), Number: draws.Int63n(52)})
	}
	return tests
}

// plainText tells tests by their words.
func plainText(tests []impl.Test) string {
	var texts []string
	for _, t := range tests {
		field := map[int64]string{0: "rank", 1: "suit", 2: "card"}[t.Field]
		texts = append(texts, field+map[int64]string{0: "=", 1: "<", 2: ">"}[t.Sign]+strconv.FormatInt(t.Number, 10))
	}
	return strings.Join(texts, "&")
}

func plainPasses(tests []impl.Test, card int64) bool {
	passes := true
	for _, t := range tests {
		asked := map[int64]int64{0: card % 13, 1: card / 13, 2: card}[t.Field]
		passes = passes && map[int64]bool{0: asked == t.Number, 1: asked < t.Number, 2: asked > t.Number}[t.Sign]
	}
	return passes
}

func wantText(t *testing.T, tests []impl.Test) {
	t.Helper()
	text, ok := impl.TestText(tests)
	wantEqual(t, ok && text == plainText(tests), true, "TestText", tests, text)
	back, ok := impl.ReadTests(plainText(tests))
	wantEqual(t, ok && slices.Equal(back, tests), true, "ReadTests leads back", tests, back)
}

func TestTestsAreValid(t *testing.T) {
	for _, test := range allTests() {
		wantEqual(t, impl.ValidTest(test), true, "ValidTest", test)
	}
	for _, test := range badTests {
		wantEqual(t, impl.ValidTest(test), false, "ValidTest", test)
	}
}

func TestTextsAreReadBack(t *testing.T) {
	for _, test := range allTests() {
		wantText(t, []impl.Test{test})
	}
	draws := rand.New(rand.NewSource(72))
	for range 2000 {
		wantText(t, drawTests(draws))
	}
	text, ok := impl.TestText(testsOf(0, 2, 9, 1, 0, 1))
	wantEqual(t, ok && text == "rank>9&suit=1", true, "TestText", text)
	wantText(t, slices.Repeat(testsOf(0, 2, 9), 6))
	wantText(t, testsOf(2, 0, 51, 2, 1, 0, 0, 2, 10, 1, 0, 5, 0, 0, 0, 0, 0, 0))
}

func TestTextsFail(t *testing.T) {
	for _, tests := range badTestLists() {
		text, ok := impl.TestText(tests)
		wantEqual(t, !ok && text == "", true, "TestText fails", tests, text)
	}
	bad := []string{
		"", "&", "rank", "rank>", ">9", "9", "rank9", "rank>9&", "&rank>9", "rank>9&&suit=1", "rank>9,suit=1", "rank>9suit=1", "rank>9& suit=1", " rank>9", "rank>9 ", "rank >9", "rank> 9",
		"rank>09", "rank>00", "rank>9&suit=01", "rank>-1", "rank>-0", "rank>+9", "rank>52", "card=52", "card<100", "rank>9.0", "rank>0x9", "rank>1e1", "rank>9a", "rank>a",
		"rank>=9", "rank=>9", "rank==9", "rank!9", "rank<>9", "Rank>9", "RANK>9", "ran>9", "ranks>9", "rang>9", "color=1", "cards=1", "suitsuit=1", "none", "rank>none",
		"rank>9\n", "\nrank>9", "rank>9\x00", "rank\x00>9", "rank>9&suit=1&", "rank>9&suit", "rank>9&suit=", "rank>9&1", "rank>9|suit=1", "rank>９", "rank＞9", "\xff", "rank>\xff",
		"rank>9223372036854775808", "rank>18446744073709551616", "rank>" + strings.Repeat("9", 1000), "rank>" + strings.Repeat("0", 1000),
		strings.Repeat("rank>9&", 6) + "rank>9", strings.Repeat("rank>9&", 6), strings.Repeat("rank>9&", 100000) + "rank>9", strings.Repeat("&", 100000), strings.Repeat("rank", 100000),
	}
	for _, s := range bad {
		tests, ok := impl.ReadTests(s)
		wantEqual(t, !ok && len(tests) == 0, true, "ReadTests fails", s[:min(len(s), 80)], len(tests))
	}
}

// changedTexts calls look with a text without some of its end, and with each byte left out, put in, or changed.
func changedTexts(text string, bytes []byte, look func(changed string)) {
	for at := range len(text) + 1 {
		look(text[:at])
		look(text[at:])
		for _, b := range bytes {
			look(text[:at] + string([]byte{b}) + text[at:])
			if at < len(text) {
				look(text[:at] + string([]byte{b}) + text[at+1:])
			}
		}
		if at < len(text) {
			look(text[:at] + text[at+1:])
		}
	}
}

func TestOnlyTextsAreRead(t *testing.T) {
	draws := rand.New(rand.NewSource(73))
	for range 60 {
		changedTexts(plainText(drawTests(draws)), []byte("&=<> -+0159rsca\x00\xff"), func(changed string) {
			tests, ok := impl.ReadTests(changed)
			if !ok {
				wantEqual(t, len(tests), 0, "ReadTests fails", changed)
				return
			}
			text, fine := impl.TestText(tests)
			wantEqual(t, fine && text == changed, true, "ReadTests reads texts only", changed, text)
		})
	}
}

func TestCardsPass(t *testing.T) {
	draws := rand.New(rand.NewSource(74))
	lists := [][]impl.Test{testsOf(0, 2, 9, 1, 0, 1), testsOf(0, 2, 51), testsOf(1, 1, 4), testsOf(2, 0, 0), testsOf(2, 2, 0, 2, 1, 51)}
	for _, test := range allTests() {
		lists = append(lists, []impl.Test{test})
	}
	for range 1000 {
		lists = append(lists, drawTests(draws))
	}
	for _, tests := range lists {
		all := int64(0)
		for card := range int64(52) {
			passes, ok := impl.PassesTests(tests, card)
			wantEqual(t, ok && passes == plainPasses(tests, card), true, "PassesTests", tests, card, passes)
			if plainPasses(tests, card) {
				all++
			}
		}
		count, ok := impl.CountPassing(tests, counted(52))
		wantInteger(t, count, ok, all, "CountPassing", tests)
		card := draws.Int63n(52)
		count, ok = impl.CountPassing(tests, slices.Repeat([]int64{card}, 52))
		want := map[bool]int64{true: 52}[plainPasses(tests, card)]
		wantInteger(t, count, ok, want, "CountPassing of one card again and again", tests, card)
		count, ok = impl.CountPassing(tests, nil)
		wantInteger(t, count, ok, 0, "CountPassing of no cards", tests)
	}
	count, ok := impl.CountPassing(testsOf(0, 2, 9, 1, 0, 1), []int64{22, 23, 24, 25, 26})
	wantInteger(t, count, ok, 3, "CountPassing of the cards 22 to 26")
}

func TestPassingFails(t *testing.T) {
	good := testsOf(0, 2, 9, 1, 0, 1)
	for _, card := range []int64{math.MinInt64, -1, 52, 53, 1 << 32, math.MaxInt64} {
		passes, ok := impl.PassesTests(good, card)
		wantEqual(t, passes || ok, false, "PassesTests of no card", card)
		for place := range 3 {
			count, ok := impl.CountPassing(good, replaced([]int64{23, 24, 25}, place, card))
			wantNoInteger(t, count, ok, "CountPassing of no card", card)
		}
	}
	for _, tests := range badTestLists() {
		passes, ok := impl.PassesTests(tests, 23)
		wantEqual(t, passes || ok, false, "PassesTests", tests)
		for _, cards := range [][]int64{nil, {23}, counted(52)} {
			count, ok := impl.CountPassing(tests, cards)
			wantNoInteger(t, count, ok, "CountPassing", tests, cards)
		}
	}
	for _, size := range []int{53, 54, 1000} {
		count, ok := impl.CountPassing(good, make([]int64, size))
		wantNoInteger(t, count, ok, "CountPassing of too many cards", size)
	}
}
