package tests

import (
	"math"
	"math/rand"
	"slices"
	"strconv"
	"strings"
	"testing"

	"loop.example/g01401/impl"
)

// deskNumbers are integers at which rules of the desk change, and some far from all of them.
var deskNumbers = []int64{math.MinInt64, -1000000000000001, -1, 0, 1, 2, 3, 4, 5, 6, 7, 8, 10, 13, 14, 18, 20, 21, 51, 52, 53, 60, 61,
	1000000, 1000001, 4294967295, 4294967296, 2432902008176639999, math.MaxInt64}

// notDecimal are words that no number is written as.
var notDecimal = []string{"", "-", "+1", "-0", "00", "01", "-01", "1.0", "1e1", "0x1", "1_0", "one", "none", "1,1", "1\n", "\n1", "1\t", "\xff", "\x00", "１",
	"1000000000000001", "-1000000000000001", "9223372036854775808", "18446744073709551617", strings.Repeat("9", 400)}

// notLists are words that no list is written as.
var notLists = []string{"", ",", "0,", ",0", "0,,1", "0;1", "00", "0,01", "-0", "+0", "0,1\n", "\n", "0\t1", "[0]", "None", "none,0", "0,none", "nil", "deck", "\xff", "0\x00",
	"0,1000000000000001", strings.Repeat("0,", 64) + "0", strings.Repeat("0", 400)}

func deskOf(deck, counts, word []int64) impl.Desk {
	return impl.Desk{Deck: deck, Counts: counts, Word: word}
}

// plainNewDesk returns what a new desk is.
func plainNewDesk() impl.Desk {
	return deskOf([]int64{0, 1, 2, 3, 4, 5, 6, 7}, []int64{3, 1, 1, 1, 2, 0, 0, 0, 0}, []int64{1, 1})
}

// deskWith returns a new desk with other parts, where they are told.
func deskWith(deck, counts, word []int64) impl.Desk {
	d := plainNewDesk()
	if deck != nil {
		d.Deck = deck
	}
	if counts != nil {
		d.Counts = counts
	}
	if word != nil {
		d.Word = word
	}
	return d
}

// copyOf returns a desk in other memory.
func copyOf(d impl.Desk) impl.Desk {
	return deskOf(slices.Clone(d.Deck), slices.Clone(d.Counts), slices.Clone(d.Word))
}

// badDesks returns desks that are not valid, each for one part.
func badDesks() []impl.Desk {
	desks := []impl.Desk{{}}
	for _, bad := range badDecks {
		d := plainNewDesk()
		d.Deck = bad
		desks = append(desks, d)
	}
	for _, bad := range badTileHands {
		d := plainNewDesk()
		d.Counts = bad
		desks = append(desks, d)
	}
	for _, bad := range badWords {
		d := plainNewDesk()
		d.Word = bad
		desks = append(desks, d)
	}
	return desks
}

// someDesks returns valid desks: a new one, those whose parts are at their ends, and drawn ones.
func someDesks() []impl.Desk {
	desks := []impl.Desk{plainNewDesk()}
	for _, deck := range [][]int64{{0}, {1, 0}, {2, 0, 1}, counted(20), counted(21), counted(51), counted(52), {3, 1, 0, 2, 5, 4}} {
		desks = append(desks, deskWith(deck, nil, nil))
	}
	for _, counts := range [][]int64{make([]int64, 9), {2, 0, 0, 0, 0, 0, 0, 0, 0}, {4, 4, 4, 2, 0, 0, 0, 0, 0}, {0, 0, 0, 0, 0, 0, 4, 4, 4}, {2, 1, 1, 0, 0, 0, 0, 0, 0},
		{3, 1, 1, 1, 1, 1, 1, 1, 3}, {4, 4, 0, 0, 0, 0, 0, 0, 0}} {
		desks = append(desks, deskWith(nil, counts, nil))
	}
	for _, word := range [][]int64{{0}, {5}, {0, 1}, {1, 0, 1, 0, 1}, make([]int64, 12), {5, 4, 3, 2, 1, 0, 5, 4, 3, 2, 1, 0}} {
		desks = append(desks, deskWith(nil, nil, word))
	}
	draws := rand.New(rand.NewSource(8))
	for range 12 {
		desks = append(desks, drawDesk(draws))
	}
	return desks
}

// drawDesk draws a valid desk.
func drawDesk(draws *rand.Rand) impl.Desk {
	var deck []int64
	for _, card := range draws.Perm(1 + draws.Intn(52)) {
		deck = append(deck, int64(card))
	}
	symbols := 1 + draws.Int63n(6)
	var word []int64
	for range 1 + draws.Intn(12) {
		word = append(word, draws.Int63n(symbols))
	}
	return deskOf(deck, drawTileHand(draws, draws.Intn(15)), word)
}

// sameDesks tells desks apart without SameDesk.
func sameDesks(a, b impl.Desk) bool {
	return slices.Equal(a.Deck, b.Deck) && slices.Equal(a.Counts, b.Counts) && slices.Equal(a.Word, b.Word)
}

// inDecimal returns an integer in decimal, and "no", if what tells it has failed.
func inDecimal(n int64, ok bool) string {
	if !ok {
		return "no"
	}
	return strconv.FormatInt(n, 10)
}

// inList returns integers in decimal with commas, and "no", if what tells them has failed, or they are no list that has a text.
func inList(list []int64, ok bool) string {
	if !ok || len(list) > 64 {
		return "no"
	}
	if len(list) == 0 {
		return "none"
	}
	var texts []string
	for _, n := range list {
		if n < -1000000000000000 || n > 1000000000000000 {
			return "no"
		}
		texts = append(texts, strconv.FormatInt(n, 10))
	}
	return strings.Join(texts, ",")
}

// inPair does so with two integers.
func inPair(a, b int64, ok bool) string { return inList([]int64{a, b}, ok) }

// wantOutput tells whether a line outputs what is wanted, and leaves a desk as it is.
func wantOutput(t *testing.T, d impl.Desk, line, want string) {
	t.Helper()
	wantBehind(t, d, line, d, want)
}

// wantBehind tells whether a line leads to a desk, and outputs what is wanted.
func wantBehind(t *testing.T, d impl.Desk, line string, behind impl.Desk, want string) {
	t.Helper()
	got, output, ok := impl.DeskCommand(d, line)
	if !ok || output != want || !sameDesks(got, behind) {
		t.Errorf("%q at %v: got %v, %q, %v, want %v, %q, true", line[:min(len(line), 200)], d, got, output, ok, behind, want)
	}
}

// wantDealt tells whether a line makes a deck that of a desk, or outputs "no", if there is none.
func wantDealt(t *testing.T, d impl.Desk, line string, deck []int64, ok bool) {
	t.Helper()
	if ok {
		wantBehind(t, d, line, deskOf(deck, d.Counts, d.Word), "ok")
	} else {
		wantOutput(t, d, line, "no")
	}
}

func wantNoDesk(t *testing.T, d impl.Desk, ok bool, what string, args ...any) {
	t.Helper()
	if ok || len(d.Deck)+len(d.Counts)+len(d.Word) != 0 {
		t.Errorf("%s %v: got %v, %v, want a failure", what, args, d, ok)
	}
}
