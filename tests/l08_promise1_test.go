package tests

import (
	"fmt"
	"slices"
	"strings"
	"testing"

	"loop.example/g01401/impl"
)

// callsOfDesk calls all that takes a desk with a line, and with a script and a journal of it.
func callsOfDesk(d impl.Desk, line string) string {
	behind, output, a := impl.DeskCommand(d, line)
	last, outputs, b := impl.RunDesk(d, line+"\ndeck\n"+line+"\n")
	none, nothing, c := impl.RunDesk(d, line)
	end, count, e := impl.RunJournal(d, strings.Join(plainJournal([]string{line, "turn", line}), ""))
	cut, few, f := impl.RunJournal(d, line)
	return told(impl.ValidDesk(d), impl.SameDesk(d, d), impl.SameDesk(d, impl.NewDesk()), behind, output, a, last, outputs, b, none, nothing, c, end, count, e, cut, few, f)
}

// callsOfOutputs calls all that takes a text.
func callsOfOutputs(text string) string {
	bad, good, a := impl.CountOutputs(text)
	lines, size, b := impl.RecoverJournal(text)
	return told(bad, good, a, lines, size, b)
}

func callsOfLines(lines []string) string {
	journal, ok := impl.JournalOf(lines)
	return told(journal, ok)
}

// hardLines are lines of all forms, and others, some of which no script and no journal has.
func hardLines() []string {
	return append(someLines(), "a\nb", "\n", "rank\n", "\xff\xfe", strings.Repeat(" ", 50), strings.Repeat("deck ", 50), "free 6 60", "draw 52 4294967295", "deck "+strings.Repeat("0,", 100)+"0")
}

// hardTexts are scripts, outputs and journals, and texts that are none.
func hardTexts() []string {
	texts := []string{"", "\n", " ", "no\nwhat\nok\n", "no", strings.Repeat("\n", 16000), strings.Repeat("\n", 16001), strings.Repeat("0 \n", 5333), strings.Repeat("0 \n", 5334), strings.Repeat("x", 20000)}
	for _, lines := range journalLists() {
		journal := strings.Join(plainJournal(lines), "")
		texts = append(texts, journal, journal[:len(journal)/2], ended(lines))
	}
	return texts
}

func TestDeskCallsReturnEqualResults(t *testing.T) {
	for _, d := range append(someDesks(), badDesks()...) {
		for _, line := range hardLines() {
			wantEqual(t, callsOfDesk(d, line), callsOfDesk(copyOf(d), strings.Clone(line)), "calls of a desk", d, line)
		}
	}
	for _, text := range hardTexts() {
		wantEqual(t, callsOfOutputs(text), callsOfOutputs(strings.Clone(text)), "calls of a text", text[:min(len(text), 80)])
	}
	for _, lines := range append(journalLists(), hardLines()) {
		wantEqual(t, callsOfLines(lines), callsOfLines(slices.Clone(lines)), "calls of lines", len(lines))
	}
	wantEqual(t, told(impl.NewDesk()), told(impl.NewDesk()), "NewDesk")
}

func TestNilAndEmptyDesksAreOneValue(t *testing.T) {
	empty := []int64{}
	for _, line := range hardLines() {
		wantEqual(t, callsOfDesk(impl.Desk{}, line), callsOfDesk(deskOf(empty, empty, empty), line), "calls of an empty desk", line)
		d := plainNewDesk()
		wantEqual(t, callsOfDesk(deskOf(nil, d.Counts, d.Word), line), callsOfDesk(deskOf(empty, d.Counts, d.Word), line), "calls of a desk without a deck", line)
		wantEqual(t, callsOfDesk(deskOf(d.Deck, nil, d.Word), line), callsOfDesk(deskOf(d.Deck, empty, d.Word), line), "calls of a desk without counts", line)
		wantEqual(t, callsOfDesk(deskOf(d.Deck, d.Counts, nil), line), callsOfDesk(deskOf(d.Deck, d.Counts, empty), line), "calls of a desk without a word", line)
	}
	wantEqual(t, impl.SameDesk(impl.Desk{}, deskOf(empty, empty, empty)), true, "SameDesk of nil and empty parts")
	wantEqual(t, callsOfLines(nil), callsOfLines([]string{}), "calls of no lines")
}

func TestDesksAreNotModified(t *testing.T) {
	for _, from := range append(someDesks(), badDesks()...) {
		deck, wholeDeck := spare(from.Deck, 3)
		counts, wholeCounts := spare(from.Counts, 1)
		word, wholeWord := spare(from.Word, 2)
		before := fmt.Sprint(wholeDeck, wholeCounts, wholeWord)
		for _, line := range hardLines() {
			callsOfDesk(deskOf(deck, counts, word), line)
		}
		wantEqual(t, fmt.Sprint(wholeDeck, wholeCounts, wholeWord), before, "desks stay", from)
	}
	for _, list := range append(journalLists(), hardLines()) {
		lines, whole := spare(list, "more")
		before := slices.Clone(whole)
		callsOfLines(lines)
		wantEqual(t, slices.Equal(whole, before), true, "lines stay", len(list))
	}
}

// wantOwnLists tells whether a desk's parts share no memory with one another, nor with another desk.
func wantOwnLists(t *testing.T, got, other impl.Desk, what string, args ...any) {
	t.Helper()
	before := copyOf(got)
	wantOther := fmt.Sprint(other)
	overwrite(got.Deck)
	wantEqual(t, slices.Equal(got.Counts, before.Counts) && slices.Equal(got.Word, before.Word), true, what+" shares no deck", args)
	overwrite(got.Counts)
	wantEqual(t, slices.Equal(got.Word, before.Word), true, what+" shares no counts", args)
	overwrite(got.Word)
	wantEqual(t, fmt.Sprint(other), wantOther, what+" shares nothing with its argument", args)
}

func TestDesksAreNewMemory(t *testing.T) {
	for _, line := range append(hardLines(), "deck", "what", "deck 0", "deck 9") {
		d, same := plainNewDesk(), plainNewDesk()
		behind, _, ok := impl.DeskCommand(d, line)
		wantEqual(t, ok, true, "DeskCommand", line)
		wantOwnLists(t, behind, d, "DeskCommand", line)
		if !strings.Contains(line, "\n") {
			last, _, ok := impl.RunDesk(d, line+"\n"+line+"\n")
			wantEqual(t, ok, true, "RunDesk", line)
			wantOwnLists(t, last, d, "RunDesk", line)
			end, count, ok := impl.RunJournal(d, strings.Join(plainJournal([]string{line, line}), ""))
			wantEqual(t, ok && count == 2, true, "RunJournal", line)
			wantOwnLists(t, end, d, "RunJournal", line)
		}
		wantEqual(t, sameDesks(d, same), true, "the desk stays", line)
	}
	for _, script := range []string{"", "\n"} {
		d := plainNewDesk()
		last, _, ok := impl.RunDesk(d, script)
		wantEqual(t, ok, true, "RunDesk")
		wantOwnLists(t, last, d, "RunDesk of nothing", script)
		end, _, ok := impl.RunJournal(d, script)
		wantEqual(t, ok, true, "RunJournal")
		wantOwnLists(t, end, d, "RunJournal of nothing", script)
	}
	wantOwnLists(t, impl.NewDesk(), impl.NewDesk(), "NewDesk")
	wantEqual(t, sameDesks(impl.NewDesk(), plainNewDesk()), true, "NewDesk again")
	journal := strings.Join(plainJournal([]string{"rank", "deck"}), "")
	lines, _, _ := impl.RecoverJournal(journal)
	clear(lines[:cap(lines)])
	again, _, ok := impl.RecoverJournal(journal)
	wantEqual(t, ok && slices.Equal(again, []string{"rank", "deck"}), true, "RecoverJournal again", again)
}

func TestHugeLinesAndDesks(t *testing.T) {
	d := impl.NewDesk()
	for _, s := range []string{" ", "x", "deck ", "\n", "0,", "1", "\xff", "\x00"} {
		long := strings.Repeat(s, 1<<21)
		for _, first := range []string{"", "deck ", "counts ", "word ", "cut ", "draw 3 ", "match 1 "} {
			line := first + long
			want := "no"
			if first == "" || strings.Contains(s, " ") {
				want = "what"
			}
			wantOutput(t, d, line, want)
			wantNoRun(t, d, line+"\n")
		}
		wantNoRecovery(t, long)
		wantNoJournal(t, []string{long})
		wantNoJournal(t, []string{"rank", long, "rank"})
		bad, good, ok := impl.CountOutputs(long)
		wantEqual(t, ok || bad != 0 || good != 0, false, "CountOutputs of a huge text", s)
	}
	wantNoJournal(t, make([]string, 1<<22))
	huge := make([]int64, 1<<22)
	for _, bad := range []impl.Desk{deskWith(huge, nil, nil), deskWith(nil, huge, nil), deskWith(nil, nil, huge)} {
		wantEqual(t, impl.ValidDesk(bad), false, "ValidDesk of a huge part")
		wantEqual(t, impl.SameDesk(bad, d) || !impl.SameDesk(bad, bad), false, "SameDesk of a huge part")
		behind, output, ok := impl.DeskCommand(bad, "rank")
		wantNoDesk(t, behind, ok || output != "", "DeskCommand of a huge part")
		wantNoRun(t, bad, "rank\n")
	}
}
