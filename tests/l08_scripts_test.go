package tests

import (
	"math/rand"
	"strings"
	"testing"

	"loop.example/g01401/impl"
)

// someLines are lines of all forms, and others.
func someLines() []string {
	var lines []string
	for _, c := range lineCases {
		lines = append(lines, c[0])
	}
	return append(lines, "deck 5,4,3,2,1,0", "out", "in", "back", "monge", "turn", "cut 2", "ranked 700", "draw 12 99", "counts 1,1,1,1,1,1,2,0,0", "word 0,1,0", "deck 0,1\r", "\x00\xff", "what", "no")
}

// drawLines draws count lines.
func drawLines(draws *rand.Rand, count int) []string {
	all := someLines()
	var lines []string
	for range count {
		lines = append(lines, all[draws.Intn(len(all))])
	}
	return lines
}

// ended returns lines, each followed by a newline.
func ended(lines []string) string {
	text := ""
	for _, line := range lines {
		text += line + "\n"
	}
	return text
}

// plainRun carries out lines, one after another, and returns the last desk and the outputs.
func plainRun(d impl.Desk, lines []string) (impl.Desk, []string) {
	var outputs []string
	for _, line := range lines {
		behind, output, _ := impl.DeskCommand(d, line)
		d = behind
		outputs = append(outputs, output)
	}
	return d, outputs
}

// wantRun tells whether a script of lines leads where all of them lead one after another.
func wantRun(t *testing.T, d impl.Desk, lines []string) {
	t.Helper()
	behind, outputs := plainRun(d, lines)
	got, told, ok := impl.RunDesk(d, ended(lines))
	if !ok || !sameDesks(got, behind) || told != ended(outputs) {
		t.Errorf("RunDesk of %d lines: got %v, %q, %v, want %v, %q", len(lines), got, told[:min(len(told), 200)], ok, behind, outputs[:min(len(outputs), 20)])
	}
}

func TestScriptsAreRun(t *testing.T) {
	draws := rand.New(rand.NewSource(81))
	for _, d := range someDesks() {
		wantRun(t, d, nil)
		wantRun(t, d, someLines())
		for _, line := range someLines() {
			wantRun(t, d, []string{line})
		}
		for count := range 30 {
			wantRun(t, d, drawLines(draws, count))
		}
	}
	var lines, outputs []string
	for _, c := range lineCases {
		lines, outputs = append(lines, c[0]), append(outputs, c[1])
	}
	_, told, ok := impl.RunDesk(impl.NewDesk(), ended(lines))
	wantEqual(t, ok && told == ended(outputs), true, "RunDesk of all lines", told)
}

func TestScriptsOfEmptyLines(t *testing.T) {
	d := plainNewDesk()
	got, told, ok := impl.RunDesk(d, "")
	wantEqual(t, ok && told == "" && sameDesks(got, d), true, "RunDesk of no lines", told)
	got, told, ok = impl.RunDesk(d, "\n")
	wantEqual(t, ok && told == "what\n" && sameDesks(got, d), true, "RunDesk of an empty line", told)
	got, told, ok = impl.RunDesk(d, "\nrank\n\n\n")
	wantEqual(t, ok && told == "what\n0\nwhat\nwhat\n" && sameDesks(got, d), true, "RunDesk of empty lines", told)
	// Only the byte 10 ends a line.
	_, told, ok = impl.RunDesk(d, "rank\r\nrank\n")
	wantEqual(t, ok && told == "what\n0\n", true, "RunDesk of a line with the byte 13", told)
	_, told, ok = impl.RunDesk(d, "rank\rrank\u2028rank\n")
	wantEqual(t, ok && told == "what\n", true, "RunDesk of one line", told)
}

func wantNoRun(t *testing.T, d impl.Desk, script string) {
	t.Helper()
	behind, told, ok := impl.RunDesk(d, script)
	wantNoDesk(t, behind, ok, "RunDesk", d, script[:min(len(script), 80)], len(script))
	wantEqual(t, told, "", "the outputs of", script[:min(len(script), 80)])
}

func TestScriptsHaveLines(t *testing.T) {
	for _, d := range someDesks()[:4] {
		for _, line := range someLines() {
			wantNoRun(t, d, "rank\n"+line+"x")
			wantNoRun(t, d, line+"\nrank")
			wantNoRun(t, d, line+"\nrank ")
		}
		for _, script := range []string{"rank", " ", "x", "\r", "rank\r", "\nrank", "\n ", "\x00", strings.Repeat("rank", 1000)} {
			wantNoRun(t, d, script)
		}
	}
	for _, d := range badDesks() {
		for _, script := range []string{"", "\n", "rank\n", "deck 0,1,2\ncounts 0,0,0,0,0,0,0,0,0\nword 0\n"} {
			wantNoRun(t, d, script)
		}
	}
}

func TestScriptsHaveALimit(t *testing.T) {
	for _, line := range []string{"", "in", "rank", "draw 9 7", "deck " + inList(counted(52), true), strings.Repeat("x", 15998)} {
		count := 16000 / (len(line) + 1)
		script := strings.Repeat(line+"\n", count)
		script = strings.Repeat("\n", 16000-len(script)) + script
		wantRun(t, impl.NewDesk(), strings.Split(script[:15999], "\n"))
		wantNoRun(t, impl.NewDesk(), "\n"+script)
		wantNoRun(t, impl.NewDesk(), script+script)
		wantNoRun(t, impl.NewDesk(), script[:15999]+"x")
	}
	behind, told, ok := impl.RunDesk(impl.NewDesk(), strings.Repeat("\n", 16000))
	wantEqual(t, ok && told == strings.Repeat("what\n", 16000) && sameDesks(behind, plainNewDesk()), true, "RunDesk of 16000 lines", len(told))
	// The outputs may be longer than a script.
	_, told, ok = impl.RunDesk(deskWith(counted(52), nil, nil), strings.Repeat("deck\n", 3200))
	wantEqual(t, ok && told == strings.Repeat(inList(counted(52), true)+"\n", 3200), true, "RunDesk of long outputs", len(told))
}

func wantCounted(t *testing.T, outputs []string) {
	t.Helper()
	bad := int64(0)
	for _, output := range outputs {
		if output == "no" || output == "what" {
			bad++
		}
	}
	wantOutputs(t, ended(outputs), bad, int64(len(outputs))-bad)
}

func wantOutputs(t *testing.T, text string, bad, good int64) {
	t.Helper()
	gotBad, gotGood, ok := impl.CountOutputs(text)
	if !ok || gotBad != bad || gotGood != good {
		t.Errorf("CountOutputs of %q: got %d, %d, %v, want %d, %d, true", text[:min(len(text), 200)], gotBad, gotGood, ok, bad, good)
	}
}

func TestOutputsAreCounted(t *testing.T) {
	draws := rand.New(rand.NewSource(82))
	for _, d := range someDesks() {
		_, outputs := plainRun(d, someLines())
		wantCounted(t, outputs)
		for count := range 30 {
			_, outputs = plainRun(d, drawLines(draws, count))
			wantCounted(t, outputs)
		}
	}
	wantOutputs(t, "", 0, 0)
	wantOutputs(t, "\n", 0, 1)
	wantOutputs(t, "no\n", 1, 0)
	wantOutputs(t, "what\n", 1, 0)
	wantOutputs(t, "ok\n", 0, 1)
	wantOutputs(t, "no\nwhat\nok\n0\nnone\n2;never\n", 2, 4)
	for _, other := range []string{"", " ", "No", "NO", "no ", " no", "no no", "nowhat", "what ", "whats", "wha", "n", "w", "What", "none", "not", "no\r", "no\x00", "\xff", "no,what"} {
		wantOutputs(t, other+"\n", 0, 1)
		wantOutputs(t, "no\n"+other+"\nwhat\n", 2, 1)
	}
	wantOutputs(t, strings.Repeat("\n", 16000), 0, 16000)
	wantOutputs(t, strings.Repeat("no\n", 5333)+"\n", 5333, 1)
	wantOutputs(t, strings.Repeat("what\n", 3200), 3200, 0)
	wantOutputs(t, strings.Repeat("x", 15999)+"\n", 0, 1)
}

func TestOtherTextsAreNotCounted(t *testing.T) {
	for _, text := range []string{"no", "what", "ok", " ", "x", "no\nwhat", "no\n ", "\nno", "\r", "\x00", strings.Repeat("x", 16000), strings.Repeat("\n", 16001), strings.Repeat("no\n", 5334),
		strings.Repeat("x", 16000) + "\n", strings.Repeat("what\n", 3200) + "\n", strings.Repeat("no\n", 1<<20)} {
		bad, good, ok := impl.CountOutputs(text)
		wantEqual(t, ok || bad != 0 || good != 0, false, "CountOutputs fails", text[:min(len(text), 80)], len(text), bad, good)
	}
}
