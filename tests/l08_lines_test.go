package tests

import (
	"fmt"
	"slices"
	"strconv"
	"strings"
	"testing"

	"loop.example/g01401/impl"
)

// formCounts are how many words there are behind the first ones, for all forms of lines.
var formCounts = map[string][]int{
	"deck": {0, 1}, "counts": {0, 1}, "word": {0, 1}, "turn": {0}, "monge": {0}, "back": {0}, "in": {0}, "out": {0}, "cut": {1}, "draw": {2},
	"rank": {0}, "ranked": {1}, "cycles": {0}, "order": {0}, "descents": {0}, "runs": {0}, "clock": {1}, "full": {0}, "far": {0}, "waits": {0}, "discard": {0},
	"wait": {1}, "free": {2}, "borders": {0}, "match": {2}, "votes": {2},
}

// lineCases are lines and outputs, one behind the other, from a new desk on. Another program has told the outputs.
var lineCases = [][2]string{
	{"wait 2", "6"}, {"full", "1"}, {"rank", "0"}, {"deck", "0,1,2,3,4,5,6,7"}, {"counts", "3,1,1,1,2,0,0,0,0"}, {"word", "1,1"},
	{"borders", "1,2"}, {"wait 6", "42"}, {"free 2 0", "1"}, {"free 2 3", "5"}, {"free 2 60", "4052739537881"}, {"free 2 61", "no"}, {"free 6 24", "no"},
	{"match 1 0", "0,1"}, {"match 3 0", "1,3"}, {"match 17 17", "1,355687428096000"}, {"match 18 17", "0,1"},
	// Fractions that ListText has no text of.
	{"match 18 18", "no"}, {"match 20 0", "no"}, {"match 20 20", "no"},
	{"match 20 1", "92079694567171,250298560512000"}, {"match 21 0", "no"}, {"match 3 4", "no"},
	{"votes 3 2", "1,5"}, {"votes 2 3", "0,1"}, {"votes 5 0", "1,1"}, {"votes 0 0", "no"}, {"votes 1000000 1", "999999,1000001"}, {"votes 1000001 0", "no"},
	{"far", "0"}, {"waits", "none"}, {"discard", "4,4"}, {"order", "1"}, {"cycles", "1,1,1,1,1,1,1,1"}, {"descents", "0"}, {"runs", "1"},
	{"in", "ok"}, {"deck", "4,0,5,1,6,2,7,3"}, {"cycles", "2,6"}, {"order", "6"}, {"descents", "4"}, {"runs", "2"},
	{"out", "ok"}, {"deck", "4,6,0,2,5,7,1,3"}, {"rank", "23800"}, {"back", "ok"}, {"deck", "2,6,3,7,0,4,1,5"}, {"turn", "ok"}, {"deck", "5,1,4,0,7,3,6,2"},
	{"monge", "ok"}, {"deck", "2,3,0,1,5,4,7,6"}, {"cut 3", "ok"}, {"deck", "1,5,4,7,6,2,3,0"}, {"cut 8", "ok"}, {"cut 0", "ok"}, {"cut 9", "no"}, {"cut -1", "no"},
	{"deck", "1,5,4,7,6,2,3,0"}, {"ranked 40319", "ok"}, {"deck", "7,6,5,4,3,2,1,0"}, {"ranked 40320", "no"}, {"rank", "40319"},
	{"clock 1", "8;yes"}, {"clock 2", "8;yes"}, {"clock 3", "no"}, {"clock 8", "2;never"}, {"clock 0", "no"}, {"clock 14", "no"},
	{"deck none", "no"}, {"word none", "no"}, {"counts none", "no"}, {"deck 1", "no"}, {"deck 0,0", "no"}, {"deck 0", "ok"}, {"deck", "0"},
	{"in", "no"}, {"out", "no"}, {"turn", "ok"}, {"monge", "ok"}, {"back", "ok"}, {"rank", "0"}, {"clock 1", "1;yes"},
	{"draw 3 0", "1196435762"}, {"deck", "1,2,0"}, {"draw 0 0", "no"}, {"draw 53 0", "no"}, {"draw 3 4294967296", "no"}, {"draw 3 -1", "no"}, {"deck", "1,2,0"},
	{"draw 21 4294967295", "3255145651"}, {"rank", "no"}, {"ranked 0", "no"}, {"runs", "12"},
	{"word 5,0,5", "ok"}, {"wait 6", "222"}, {"wait 5", "no"}, {"wait 7", "no"}, {"borders", "1,3"}, {"free 6 3", "215"}, {"word 6", "no"}, {"word -1", "no"},
	{"word 0,0,0,0,0,0,0,0,0,0,0,0,0", "no"}, {"word", "5,0,5"},
	{"counts 2,1,1,0,0,0,0,0,0", "ok"}, {"waits", "0,3"}, {"full", "0"}, {"far", "no"}, {"discard", "no"},
	{"counts 4,4,4,2,0,0,0,0,0", "ok"}, {"waits", "no"}, {"full", "3"}, {"counts 5,0,0,0,0,0,0,0,0", "no"}, {"counts 1", "no"}, {"counts 4,4,4,3,0,0,0,0,0", "no"},
	{"counts", "4,4,4,2,0,0,0,0,0"}, {"counts 0,0,0,0,0,0,0,0,0", "ok"}, {"waits", "none"}, {"full", "0"},
	{"", "what"}, {" ", "what"}, {"shuffle", "what"}, {"rank ", "what"}, {" rank", "what"}, {"cut", "what"}, {"cut ", "no"}, {"cut  1", "what"},
}

func TestLinesOneBehindTheOther(t *testing.T) {
	d := impl.NewDesk()
	for _, c := range lineCases {
		behind, output, ok := impl.DeskCommand(d, c[0])
		wantEqual(t, output, c[1], "the output of", c[0])
		wantEqual(t, ok && impl.ValidDesk(behind), true, "DeskCommand", c[0])
		wantEqual(t, output == "ok" || strings.HasPrefix(c[0], "draw ") || sameDesks(behind, d), true, "nothing else changes by", c[0])
		d = behind
	}
	wantEqual(t, sameDesks(d, deskOf(d.Deck, make([]int64, 9), []int64{5, 0, 5})) && len(d.Deck) == 21, true, "the desk behind all lines", d)
}

func TestPartsAreTold(t *testing.T) {
	for _, d := range someDesks() {
		wantOutput(t, d, "deck", inList(d.Deck, true))
		wantOutput(t, d, "counts", inList(d.Counts, true))
		wantOutput(t, d, "word", inList(d.Word, true))
		for _, other := range someDesks() {
			wantBehind(t, d, "deck "+inList(other.Deck, true), deskOf(other.Deck, d.Counts, d.Word), "ok")
			wantBehind(t, d, "counts "+inList(other.Counts, true), deskOf(d.Deck, other.Counts, d.Word), "ok")
			wantBehind(t, d, "word "+inList(other.Word, true), deskOf(d.Deck, d.Counts, other.Word), "ok")
		}
	}
}

func TestPartsThatAreNoneAreRefused(t *testing.T) {
	for _, d := range someDesks()[:10] {
		for _, part := range []string{"deck ", "counts ", "word "} {
			for _, text := range notLists {
				wantOutput(t, d, part+text, "no")
			}
			wantOutput(t, d, part+"none", "no")
		}
		for _, bad := range badDecks {
			wantOutput(t, d, "deck "+inList(bad, true), "no")
		}
		for _, bad := range badTileHands {
			wantOutput(t, d, "counts "+inList(bad, true), "no")
		}
		for _, bad := range badWords {
			wantOutput(t, d, "word "+inList(bad, true), "no")
		}
	}
}

func TestDecksAreDealtAtADesk(t *testing.T) {
	for _, d := range someDesks() {
		deck, ok := impl.TurnDeck(d.Deck)
		wantDealt(t, d, "turn", deck, ok)
		deck, ok = impl.MongeShuffle(d.Deck)
		wantDealt(t, d, "monge", deck, ok)
		deck, ok = impl.BackDeck(d.Deck)
		wantDealt(t, d, "back", deck, ok)
		deck, ok = impl.PerfectShuffle(d.Deck, true)
		wantDealt(t, d, "in", deck, ok)
		deck, ok = impl.PerfectShuffle(d.Deck, false)
		wantDealt(t, d, "out", deck, ok)
		for _, n := range deskNumbers {
			deck, ok = impl.CutDeck(d.Deck, n)
			wantDealt(t, d, fmt.Sprint("cut ", n), deck, ok)
			deck, ok = impl.DeckOfRank(int64(len(d.Deck)), n)
			// A greater number than ReadDecimal reads is none, even where there is a deck with this rank.
			wantDealt(t, d, fmt.Sprint("ranked ", n), deck, ok && n <= impl.MaxValue)
		}
	}
}

func TestDecksAreDrawnAtADesk(t *testing.T) {
	for _, d := range someDesks()[:12] {
		for _, n := range deskNumbers {
			for _, seed := range []int64{-1, 0, 1, 77, 4294967295, 4294967296, 1000000000000000} {
				line := fmt.Sprint("draw ", n, " ", seed)
				deck, then, ok := impl.DrawDeck(n, seed)
				if ok {
					wantBehind(t, d, line, deskOf(deck, d.Counts, d.Word), strconv.FormatInt(then, 10))
				} else {
					wantOutput(t, d, line, "no")
				}
			}
		}
	}
}

func TestOrdersAreToldAtADesk(t *testing.T) {
	for _, d := range someDesks() {
		n, ok := impl.RankOf(d.Deck)
		wantOutput(t, d, "rank", inDecimal(n, ok))
		list, ok := impl.CyclesOf(d.Deck)
		wantOutput(t, d, "cycles", inList(list, ok))
		n, ok = impl.OrderOf(d.Deck)
		wantOutput(t, d, "order", inDecimal(n, ok))
		n, ok = impl.DescentsOf(d.Deck)
		wantOutput(t, d, "descents", inDecimal(n, ok))
		n, ok = impl.RisingRuns(d.Deck)
		wantOutput(t, d, "runs", inDecimal(n, ok))
		for _, piles := range append(counted(15), deskNumbers...) {
			turned, all, ok := impl.ClockDeal(d.Deck, piles)
			want := inDecimal(turned, ok)
			if ok {
				want += map[bool]string{true: ";yes", false: ";never"}[all]
			}
			wantOutput(t, d, fmt.Sprint("clock ", piles), want)
		}
	}
}

func TestTilesAreToldAtADesk(t *testing.T) {
	for _, d := range someDesks() {
		n, ok := impl.FullWays(d.Counts)
		wantOutput(t, d, "full", inDecimal(n, ok))
		n, ok = impl.FarFromFull(d.Counts)
		wantOutput(t, d, "far", inDecimal(n, ok))
		list, ok := impl.WaitsOf(d.Counts)
		wantOutput(t, d, "waits", inList(list, ok))
		kind, most, ok := impl.BestDiscard(d.Counts)
		wantOutput(t, d, "discard", inPair(kind, most, ok))
	}
}

func TestWordsAndChancesAreToldAtADesk(t *testing.T) {
	for _, d := range someDesks() {
		list, ok := impl.WordBorders(d.Word)
		wantOutput(t, d, "borders", inList(list, ok))
		for _, n := range deskNumbers {
			wait, ok := impl.WordWait(d.Word, n)
			wantOutput(t, d, fmt.Sprint("wait ", n), inDecimal(wait, ok))
			for _, k := range deskNumbers {
				free, ok := impl.WordFree(d.Word, n, k)
				wantOutput(t, d, fmt.Sprint("free ", n, " ", k), inDecimal(free, ok))
			}
		}
	}
	d := impl.NewDesk()
	for _, n := range append(counted(22), deskNumbers...) {
		for _, k := range append(counted(22), deskNumbers...) {
			over, under, ok := impl.MatchChance(n, k)
			wantOutput(t, d, fmt.Sprint("match ", n, " ", k), inPair(over, under, ok))
			over, under, ok = impl.BallotChance(n, k)
			wantOutput(t, d, fmt.Sprint("votes ", n, " ", k), inPair(over, under, ok))
		}
	}
}

func TestNumbersThatAreNoneAreRefused(t *testing.T) {
	d := impl.NewDesk()
	for _, text := range notDecimal {
		for _, word := range []string{"cut", "ranked", "clock", "wait"} {
			wantOutput(t, d, word+" "+text, "no")
		}
		for _, word := range []string{"draw", "free", "match", "votes"} {
			wantOutput(t, d, word+" "+text+" 1", "no")
			wantOutput(t, d, word+" 2 "+text, "no")
			wantOutput(t, d, word+" "+text+" "+text, "no")
		}
	}
}

// TestOtherLinesAreUnknown tries all first words with each number of words, and words that are no first ones.
func TestOtherLinesAreUnknown(t *testing.T) {
	for _, d := range someDesks()[:10] {
		for word, counts := range formCounts {
			for count := range 6 {
				for _, more := range []string{" 1", " ", " none", " x"} {
					line := word + strings.Repeat(more, count)
					_, output, ok := impl.DeskCommand(d, line)
					wantEqual(t, ok && (output == "what") == !slices.Contains(counts, count), true, "the output of", line, output)
					for _, first := range []string{" " + word, strings.ToUpper(word), word + "z", "x" + word, word[1:], "\n" + word, word + "\n", word + "\t1", word + "\x00", word + "\xa0", word + ",", word + "=1"} {
						wantOutput(t, d, first+strings.Repeat(more, count), "what")
					}
				}
			}
		}
		for _, line := range []string{"", " ", "  ", "1", "0,1", "none", "ok", "no", "what", "yes", "never", "N", "TEXT", "deck;", "shuffle", "sign", "match", "match 3", "match 3 0 0", "far 1",
			"\n", "\x00", "\xff\xfe", "déck", strings.Repeat(" ", 1000), strings.Repeat("deck ", 1000), strings.Repeat("deck", 1000)} {
			wantOutput(t, d, line, "what")
		}
	}
}

func TestCommandsNeedValidDesks(t *testing.T) {
	for _, d := range badDesks() {
		for _, line := range []string{"", "deck", "deck 0,1,2", "counts 0,0,0,0,0,0,0,0,0", "word 1,1", "turn", "draw 3 0", "match 3 0", "votes 3 2", "full", "wait 2", "what"} {
			behind, output, ok := impl.DeskCommand(d, line)
			wantNoDesk(t, behind, ok, "DeskCommand", d, line)
			wantEqual(t, output, "", "the output of", line)
		}
	}
}
