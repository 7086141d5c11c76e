package tests

import (
	"math/rand"
	"slices"
	"strconv"
	"strings"
	"testing"

	"loop.example/g01401/impl"
)

// plainJournal returns what the journal has for each line, with the check numbers told by their rule.
func plainJournal(lines []string) []string {
	var rows []string
	check := 0
	for _, line := range lines {
		for _, b := range []byte(line) {
			check = (983*check + int(b) + 239) % 65003
		}
		rows = append(rows, strconv.Itoa(check)+" "+line+"\n")
	}
	return rows
}

// journalLists are lists of lines that a journal can have, many of which no desk knows.
func journalLists() [][]string {
	lists := [][]string{nil, {""}, {"", ""}, {"rank"}, {"rank", "rank"}, {"deck", "", "rank"}, {" "}, {" rank ", "  "}, {"48499 rank"}, {"48499 rank", "0 "}, {"\x00\xff\r\t"}, {"0", "1"}, someLines(), {strings.Repeat("x", 5000)}}
	draws := rand.New(rand.NewSource(83))
	for count := range 12 {
		lists = append(lists, drawLines(draws, count))
	}
	return lists
}

func wantJournal(t *testing.T, lines []string, want string) {
	t.Helper()
	journal, ok := impl.JournalOf(lines)
	wantEqual(t, ok && journal == want, true, "JournalOf", lines[:min(len(lines), 10)], journal[:min(len(journal), 200)])
}

// wantLinesBack tells whether the journal that a text begins with is that of lines, and has so many bytes.
func wantLinesBack(t *testing.T, text string, lines []string, size int) {
	t.Helper()
	got, n, ok := impl.RecoverJournal(text)
	if !ok || !slices.Equal(got, lines) || n != int64(size) {
		t.Errorf("RecoverJournal of %q: got %q, %d, %v, want %q, %d, true", text[:min(len(text), 300)], got[:min(len(got), 20)], n, ok, lines[:min(len(lines), 20)], size)
	}
}

func TestJournalsAreWritten(t *testing.T) {
	wantJournal(t, nil, "")
	wantJournal(t, []string{""}, "0 \n")
	wantJournal(t, []string{"rank", "deck"}, "48499 rank\n4765 deck\n")
	wantJournal(t, []string{"rank", "rank", "", "cut 3", "deck 2,0,1", "\xff\x00 "}, "48499 rank\n1089 rank\n1089 \n61197 cut 3\n28725 deck 2,0,1\n19199 \xff\x00 \n")
	for _, lines := range journalLists() {
		journal := strings.Join(plainJournal(lines), "")
		wantJournal(t, lines, journal)
		wantLinesBack(t, journal, lines, len(journal))
	}
}

func wantNoJournal(t *testing.T, lines []string) {
	t.Helper()
	journal, ok := impl.JournalOf(lines)
	wantEqual(t, ok || journal != "", false, "JournalOf fails", len(lines), journal[:min(len(journal), 80)])
}

func TestJournalsHaveLinesWithoutNewlines(t *testing.T) {
	for _, bad := range []string{"\n", "a\nb", "rank\n", "\nrank", "rank\n\n", "\x00\n", strings.Repeat("x", 1000) + "\n"} {
		wantNoJournal(t, []string{bad})
		wantNoJournal(t, []string{"rank", bad})
		wantNoJournal(t, []string{bad, "rank"})
		wantNoJournal(t, []string{"", "rank", bad, "deck"})
	}
}

func TestJournalsHaveALimit(t *testing.T) {
	exact := 0
	for _, first := range [][]string{nil, {""}, {"rank", "deck"}, someLines()} {
		size := len(strings.Join(plainJournal(first), ""))
		for long := 15985 - size; long <= 16000-size; long++ {
			lines := append(slices.Clone(first), strings.Repeat("y", long))
			rows := plainJournal(lines)
			journal := strings.Join(rows, "")
			if len(journal) > 16000 {
				wantNoJournal(t, lines)
				wantNoRecovery(t, journal)
				continue
			}
			wantJournal(t, lines, journal)
			wantLinesBack(t, journal, lines, len(journal))
			if len(journal) == 16000 {
				exact++
				wantNoJournal(t, append(lines, ""))
				wantNoRecovery(t, journal+"0 \n")
				wantNoRecovery(t, journal+"x")
			}
		}
	}
	wantEqual(t, exact > 0, true, "journals of just 16000 bytes", exact)
	// 5333 lines of "0 " and a newline are 15999 bytes.
	wantJournal(t, make([]string, 5333), strings.Repeat("0 \n", 5333))
	wantLinesBack(t, strings.Repeat("0 \n", 5333), make([]string, 5333), 15999)
	wantLinesBack(t, strings.Repeat("0 \n", 5333)+"0", make([]string, 5333), 15999)
	wantNoJournal(t, make([]string, 5334))
	wantNoJournal(t, []string{strings.Repeat("x", 16000)})
	wantLinesBack(t, strings.Repeat("x", 16000), nil, 0)
	wantLinesBack(t, strings.Repeat("\n", 16000), nil, 0)
}

func wantNoRecovery(t *testing.T, text string) {
	t.Helper()
	lines, n, ok := impl.RecoverJournal(text)
	wantEqual(t, ok || len(lines) != 0 || n != 0, false, "RecoverJournal fails", len(text), len(lines), n)
	behind, count, ok := impl.RunJournal(impl.NewDesk(), text)
	wantNoDesk(t, behind, ok, "RunJournal", len(text))
	wantEqual(t, count, 0, "RunJournal fails", len(text))
}

// TestJournalsAreRecovered cuts journals anywhere, and changes each byte, leaves it out, and puts one ahead of it.
func TestJournalsAreRecovered(t *testing.T) {
	for _, lines := range journalLists() {
		rows := plainJournal(lines)
		journal := strings.Join(rows, "")
		if len(journal) > 3000 {
			continue
		}
		whole, size := 0, 0
		for at := range len(journal) + 1 {
			if whole < len(rows) && at == size+len(rows[whole]) {
				size += len(rows[whole])
				whole++
			}
			wantLinesBack(t, journal[:at], lines[:whole], size)
			if at == len(journal) {
				continue
			}
			for _, other := range []byte{journal[at] + 1, journal[at] ^ 128, '0', ' ', '\n', 'x', 0} {
				if other != journal[at] {
					wantLinesBack(t, journal[:at]+string([]byte{other})+journal[at+1:], lines[:whole], size)
				}
			}
			wantLinesBack(t, journal[:at]+journal[at+1:], lines[:whole], size)
			wantLinesBack(t, journal[:at]+"7"+journal[at:], lines[:whole], size)
		}
		for _, more := range []string{"x", "\n", " ", "0", "0\n", "rank\n", "00 \n", "+0 \n", " 0 \n", "-1 \n", "65003 \n", "0  \n", "\x00"} {
			if !slices.Contains(lines, "") {
				wantLinesBack(t, journal+more, lines, len(journal))
				wantLinesBack(t, journal+more+journal, lines, len(journal))
			}
		}
	}
}

func TestCheckNumbersGoOnFromLineToLine(t *testing.T) {
	rows := plainJournal([]string{"rank", "rank", "deck"})
	all := strings.Join(rows, "")
	lines := []string{"rank", "rank", "deck"}
	wantLinesBack(t, all, lines, len(all))
	wantLinesBack(t, rows[0]+rows[2], lines[:1], len(rows[0]))
	wantLinesBack(t, rows[0]+rows[0], lines[:1], len(rows[0]))
	wantLinesBack(t, rows[1]+rows[2], nil, 0)
	wantLinesBack(t, rows[1]+rows[0], nil, 0)
	wantLinesBack(t, all+rows[2], lines, len(all))
	wantLinesBack(t, all+all, lines, len(all))
	for _, first := range []string{"48499rank\n", "48499  rank\n", "048499 rank\n", "+48499 rank\n", " 48499 rank\n", "48499 rank \n", "48499 rank\r\n", "48499\trank\n", "48500 rank\n", "113502 rank\n", "-16504 rank\n",
		"48499.0 rank\n", "0xbd73 rank\n", "48499 Rank\n", "rank\n", "rank 48499\n", "48499\n", " rank\n", "48499 \n", "\n", "0\n", " \n", "9223372036854824307 rank\n", "４8499 rank\n"} {
		wantLinesBack(t, first, nil, 0)
		wantLinesBack(t, first+rows[1], nil, 0)
		wantLinesBack(t, "0 \n"+first, []string{""}, 3)
	}
	wantLinesBack(t, "0 \n0 \n48499 rank\n48499 \n", []string{"", "", "rank", ""}, 24)
}

func wantJournalRun(t *testing.T, d impl.Desk, text string, lines []string) {
	t.Helper()
	want, _ := plainRun(d, lines)
	got, count, ok := impl.RunJournal(d, text)
	if !ok || !sameDesks(got, want) || count != int64(len(lines)) {
		t.Errorf("RunJournal of %q: got %v, %d, %v, want %v, %d, true", text[:min(len(text), 300)], got, count, ok, want, len(lines))
	}
}

func TestJournalsAreRun(t *testing.T) {
	for _, d := range someDesks() {
		for _, lines := range journalLists() {
			rows := plainJournal(lines)
			for whole := range len(rows) + 1 {
				front := strings.Join(rows[:whole], "")
				if whole < len(rows) && whole%5 == 0 {
					front += rows[whole][:len(rows[whole])/2]
				}
				wantJournalRun(t, d, front, lines[:whole])
			}
		}
		wantJournalRun(t, d, "", nil)
		wantJournalRun(t, d, "turn\n", nil)
		wantJournalRun(t, d, strings.Repeat("x", 16000), nil)
		wantNoRecovery(t, strings.Repeat("x", 16001))
	}
	turned, count, ok := impl.RunJournal(impl.NewDesk(), strings.Join(plainJournal([]string{"turn", "word 0,1", "nothing", "deck 9"}), ""))
	wantEqual(t, ok && count == 4 && sameDesks(turned, deskWith([]int64{7, 6, 5, 4, 3, 2, 1, 0}, nil, []int64{0, 1})), true, "RunJournal of lines that do nothing, too", turned, count)
	for _, d := range badDesks() {
		for _, text := range []string{"", "x", "48499 rank\n", strings.Join(plainJournal([]string{"deck 0", "counts 0,0,0,0,0,0,0,0,0", "word 0"}), "")} {
			behind, count, ok := impl.RunJournal(d, text)
			wantNoDesk(t, behind, ok, "RunJournal", d, text)
			wantEqual(t, count, 0, "RunJournal fails", d, text)
		}
	}
}
