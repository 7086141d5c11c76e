package tests

import (
	"math/rand"
	"slices"
	"strings"
	"testing"

	"loop.example/g01401/impl"
)

// boardOf returns the board that has pegs where a text has ones.
func boardOf(text string) []bool {
	board := []bool{}
	for _, c := range text {
		board = append(board, c == '1')
	}
	return board
}

// plainMoves finds moves by what they look like.
func plainMoves(board string) ([]int64, []string) {
	var moves []int64
	var behind []string
	for from := range board {
		if from >= 2 && board[from-2:from+1] == "011" {
			moves, behind = append(moves, int64(from), int64(from-2)), append(behind, board[:from-2]+"100"+board[from+1:])
		}
		if strings.HasPrefix(board[from:], "110") {
			moves, behind = append(moves, int64(from), int64(from+2)), append(behind, board[:from]+"001"+board[from+3:])
		}
	}
	return moves, behind
}

// plainPegs plays all rows of moves, and returns the fewest pegs that are left, and the first moves that leave them.
func plainPegs(board string) (int64, []int64) {
	least, line := int64(strings.Count(board, "1")), []int64(nil)
	moves, behind := plainMoves(board)
	for i, next := range behind {
		left, rest := plainPegs(next)
		told := append(slices.Clone(moves[2*i:2*i+2]), rest...)
		if left < least || left == least && line != nil && slices.Compare(told, line) < 0 {
			least, line = left, told
		}
	}
	return least, line
}

// plainReach returns how many boards can be reached.
func plainReach(board string) int64 {
	seen := map[string]bool{board: true}
	for left := []string{board}; len(left) > 0; {
		_, behind := plainMoves(left[0])
		left = left[1:]
		for _, next := range behind {
			if !seen[next] {
				seen[next] = true
				left = append(left, next)
			}
		}
	}
	return int64(len(seen))
}

// wantPegs tells whether all functions of pegs tell what is wanted of a board.
func wantPegs(t *testing.T, text string, least, reach int64, line []int64) {
	t.Helper()
	board := boardOf(text)
	left, ok := impl.PegLeast(board)
	wantInteger(t, left, ok, least, "PegLeast", text)
	count, ok := impl.PegReach(board)
	wantInteger(t, count, ok, reach, "PegReach", text)
	moves, ok := impl.PegLine(board)
	wantList(t, moves, ok, line, "PegLine", text)
	all, _ := plainMoves(text)
	moves, ok = impl.PegMoves(board)
	wantList(t, moves, ok, all, "PegMoves", text)
}

func TestPegsAreJumped(t *testing.T) {
	for places := 1; places <= 9; places++ {
		for _, bits := range allWords(2, places) {
			var text strings.Builder
			for _, bit := range bits {
				text.WriteByte("01"[bit])
			}
			least, line := plainPegs(text.String())
			wantPegs(t, text.String(), least, plainReach(text.String()), line)
		}
	}
	draws := rand.New(rand.NewSource(67))
	for places := 10; places <= 14; places++ {
		for range 12 {
			text := strings.Map(func(c rune) rune { return c + rune(draws.Intn(2)) }, strings.Repeat("0", places))
			least, line := plainPegs(text)
			wantPegs(t, text, least, plainReach(text), line)
		}
	}
}

func TestPegsAreLeft(t *testing.T) {
	cases := []struct {
		board        string
		least, reach int64
		line         []int64
	}{
		{"110", 1, 2, []int64{0, 2}},
		{"011", 1, 2, []int64{2, 0}},
		{"0110", 1, 3, []int64{1, 3}},
		{"1101", 1, 3, []int64{0, 2, 3, 1}},
		{"1110", 2, 2, []int64{1, 3}},
		{"101", 2, 1, nil},
		{"11", 2, 1, nil},
		{"1", 1, 1, nil},
		{"0", 0, 1, nil},
		{"00000000000000", 0, 1, nil},
		{"11111111111111", 14, 1, nil},
		{"10101010101010", 7, 1, nil},
		// These are computed by another program.
		{"11011101111011", 1, 329, []int64{0, 2, 4, 6, 2, 4, 7, 5, 4, 6, 9, 7, 6, 8, 13, 11, 11, 9, 8, 10}},
		{"01111111111111", 7, 7, []int64{2, 0, 4, 2, 6, 4, 8, 6, 10, 8, 12, 10}},
		{"10111111111111", 1, 43, []int64{3, 1, 0, 2, 5, 3, 2, 4, 7, 5, 4, 6, 9, 7, 6, 8, 11, 9, 8, 10, 13, 11, 10, 12}},
		{"11011111111111", 3, 38, []int64{4, 2, 1, 3, 6, 4, 3, 5, 8, 6, 5, 7, 10, 8, 7, 9, 12, 10, 9, 11}},
		{"11111101111111", 2, 106, []int64{4, 6, 2, 4, 0, 2, 7, 5, 4, 6, 9, 7, 6, 8, 11, 9, 8, 10, 13, 11, 10, 12}},
		{"11001100110011", 2, 72, []int64{0, 2, 5, 3, 2, 4, 8, 10, 13, 11, 10, 12}},
		{"01101101101101", 3, 163, []int64{1, 3, 4, 2, 8, 6, 5, 7, 10, 12, 13, 11}},
		{"10110110110110", 3, 163, []int64{3, 1, 0, 2, 5, 7, 8, 6, 12, 10, 9, 11}},
	}
	for _, c := range cases {
		wantPegs(t, c.board, c.least, c.reach, c.line)
	}
	for _, board := range badBoards {
		moves, ok := impl.PegMoves(board)
		wantNoList(t, moves, ok, "PegMoves of places", len(board))
		least, ok := impl.PegLeast(board)
		wantNoInteger(t, least, ok, "PegLeast of places", len(board))
		line, ok := impl.PegLine(board)
		wantNoList(t, line, ok, "PegLine of places", len(board))
		reach, ok := impl.PegReach(board)
		wantNoInteger(t, reach, ok, "PegReach of places", len(board))
	}
}

// TestAllPegsAreCounted holds the sums over all boards against those of another program.
func TestAllPegsAreCounted(t *testing.T) {
	sums := map[int]int64{3: 10, 4: 23, 5: 53, 6: 116, 7: 257, 8: 557, 9: 1210, 10: 2605, 11: 5600, 12: 11962, 13: 25496, 14: 54089}
	reached := map[int]int64{3: 10, 4: 26, 5: 68, 6: 184, 7: 488, 8: 1316, 9: 3504, 10: 9392, 11: 25032, 12: 66912}
	for places, sum := range sums {
		left, boards := int64(0), int64(0)
		board := make([]bool, places)
		for bits := range 1 << places {
			for place := range board {
				board[place] = bits>>place&1 == 1
			}
			least, ok := impl.PegLeast(board)
			wantEqual(t, ok, true, "PegLeast", board)
			left += least
			if reached[places] > 0 {
				reach, _ := impl.PegReach(board)
				boards += reach
			}
		}
		wantEqual(t, left, sum, "PegLeast of all boards", places)
		wantEqual(t, boards, reached[places], "PegReach of all boards", places)
	}
}

// plainClock turns cards of piles that are dealt one by one.
func plainClock(deck []int64, piles int64) int64 {
	stacks := make([][]int64, piles)
	for i, card := range deck {
		stacks[int64(i)%piles] = append(stacks[int64(i)%piles], card)
	}
	turned := int64(0)
	for pile := piles - 1; len(stacks[pile]) > 0; turned++ {
		top := len(stacks[pile]) - 1
		card := stacks[pile][top]
		stacks[pile] = stacks[pile][:top]
		pile = card % piles
	}
	return turned
}

func wantClock(t *testing.T, deck []int64, piles int64, want int64) {
	t.Helper()
	turned, all, ok := impl.ClockDeal(deck, piles)
	if !ok || turned != want || all != (want == int64(len(deck))) {
		t.Errorf("ClockDeal %v %v: got %v, %v, %v, want %v", deck, piles, turned, all, ok, want)
	}
}

func wantNoClock(t *testing.T, deck []int64, piles int64) {
	t.Helper()
	turned, all, ok := impl.ClockDeal(deck, piles)
	if turned != 0 || all || ok {
		t.Errorf("ClockDeal %v %v: got %v, %v, %v, want a failure", len(deck), piles, turned, all, ok)
	}
}

func TestClocksAreDealt(t *testing.T) {
	wantClock(t, []int64{0, 1, 2, 3}, 2, 2)
	wantClock(t, []int64{0, 1, 3, 2}, 2, 3)
	wantClock(t, []int64{1, 3, 0, 2}, 2, 4)
	wantClock(t, []int64{0}, 1, 1)
	wantClock(t, counted(52), 1, 52)
	wantClock(t, counted(52), 13, 4)
	wantClock(t, counted(13), 13, 1)
	turned, _ := impl.TurnDeck(counted(13))
	wantClock(t, turned, 13, 2)
	all := 0
	for _, deck := range someDecks() {
		for piles := int64(1); piles <= 13; piles++ {
			if int64(len(deck))%piles != 0 {
				wantNoClock(t, deck, piles)
				continue
			}
			want := plainClock(deck, piles)
			wantClock(t, deck, piles, want)
			if piles > 1 && want == int64(len(deck)) {
				all++
			}
		}
	}
	wantEqual(t, all > 0, true, "some clocks turn all cards")
	// Each round of a clock of all cards is drawn as likely: 1 of 13 turns all.
	whole := 0
	for seed := range int64(2000) {
		deck, _, _ := impl.DrawDeck(52, seed)
		want := plainClock(deck, 13)
		wantClock(t, deck, 13, want)
		if want == 52 {
			whole++
		}
	}
	wantEqual(t, whole > 100 && whole < 210, true, "clocks that turn all", whole)
}

func TestBadClocksFail(t *testing.T) {
	for _, piles := range append([]int64{0, -1, -2, 3, 5, 14, 26, 52}, farNumbers...) {
		wantNoClock(t, counted(52), piles)
	}
	wantNoClock(t, []int64{0, 1, 2}, 2)
	wantNoClock(t, counted(14), 14)
	wantNoClock(t, counted(28), 14)
	wantNoClock(t, []int64{0, 1}, 4)
	for _, deck := range badDecks {
		for piles := int64(1); piles <= 4; piles++ {
			wantNoClock(t, deck, piles)
		}
	}
}
