package tests

import (
	"fmt"
	"math/rand"
	"slices"
	"testing"

	"loop.example/g01401/impl"
)

// plainValues returns the values of heaps by what cannot be left.
func plainValues(moves []int64, n int64) []int64 {
	values := []int64{}
	for size := range n + 1 {
		left := map[int64]bool{}
		for _, take := range moves {
			if take <= size {
				left[values[size-take]] = true
			}
		}
		value := int64(0)
		for left[value] {
			value++
		}
		values = append(values, value)
	}
	return values
}

// wins tells by playing all games whether the one who moves wins, if who cannot move loses; next returns what can be left.
func wins(heaps []int64, next func(heaps []int64) [][]int64, known map[string]bool) bool {
	key := fmt.Sprint(slices.Sorted(slices.Values(heaps)))
	if won, ok := known[key]; ok {
		return won
	}
	won := slices.ContainsFunc(next(heaps), func(left []int64) bool { return !wins(left, next, known) })
	known[key] = won
	return won
}

// taken returns all heaps that can be left by moves, those first that are left by the first heap, and by the least move from it.
func taken(moves []int64) func(heaps []int64) [][]int64 {
	return func(heaps []int64) [][]int64 {
		var all [][]int64
		for i, heap := range heaps {
			for _, take := range moves {
				if take <= heap {
					left := slices.Clone(heaps)
					left[i] -= take
					all = append(all, left)
				}
			}
		}
		return all
	}
}

// split returns all rows that are left if one pin, or two neighbours, are taken.
func split(rows []int64) [][]int64 {
	var all [][]int64
	for i, row := range rows {
		for first := range row {
			for last := first; last < min(first+2, row); last++ {
				left := slices.Delete(slices.Clone(rows), i, i+1)
				all = append(all, append(left, first, row-last-1))
			}
		}
	}
	return all
}

func TestHeapsHaveValues(t *testing.T) {
	draws := rand.New(rand.NewSource(73))
	for range 300 {
		moves := drawMoves(draws, 1+draws.Intn(8), 8+draws.Intn(193))
		n := draws.Int63n(201)
		values, ok := impl.TakeValues(moves, n)
		wantList(t, values, ok, plainValues(moves, n), "TakeValues", moves, n)
	}
	cases := []struct {
		moves []int64
		n     int64
		want  []int64
	}{
		{[]int64{1, 2, 3}, 5, []int64{0, 1, 2, 3, 0, 1}},
		{[]int64{1, 2, 3}, 0, []int64{0}},
		{[]int64{200}, 0, []int64{0}},
		{[]int64{2, 5, 7}, 20, []int64{0, 0, 1, 1, 0, 2, 1, 3, 2, 2, 0, 3, 1, 0, 0, 1, 1, 2, 2, 3, 3}},
		{[]int64{1, 2, 3, 4, 5, 6, 7, 8}, 10, []int64{0, 1, 2, 3, 4, 5, 6, 7, 8, 0, 1}},
		{[]int64{200}, 200, append(make([]int64, 200), 1)},
	}
	for _, c := range cases {
		values, ok := impl.TakeValues(c.moves, c.n)
		wantList(t, values, ok, c.want, "TakeValues", c.moves, c.n)
	}
	for _, moves := range badMoves {
		values, ok := impl.TakeValues(moves, 5)
		wantNoList(t, values, ok, "TakeValues", moves)
		values, ok = impl.TakeValues(moves, 0)
		wantNoList(t, values, ok, "TakeValues", moves)
	}
	for _, n := range append([]int64{-1, 201}, farNumbers...) {
		values, ok := impl.TakeValues([]int64{1, 2, 3}, n)
		wantNoList(t, values, ok, "TakeValues", n)
	}
}

func TestPinsHaveValues(t *testing.T) {
	// These are computed by another program.
	pins := []int64{0, 1, 2, 3, 1, 4, 3, 2, 1, 4, 2, 6, 4, 1, 2, 7, 1, 4, 3, 2, 1, 4, 6, 7, 4, 1, 2, 8, 5, 4, 7, 2, 1, 8, 6, 7, 4, 1, 2, 3, 1,
		4, 7, 2, 1, 8, 2, 7, 4, 1, 2, 8, 1, 4, 7, 2, 1, 4, 2, 7, 4}
	for n := range int64(61) {
		values, ok := impl.SplitValues(n)
		wantList(t, values, ok, pins[:n+1], "SplitValues", n)
	}
	for _, n := range append([]int64{-1, 61, 200}, farNumbers...) {
		values, ok := impl.SplitValues(n)
		wantNoList(t, values, ok, "SplitValues", n)
	}
	// Two rows lose just if their values are equal, and three if the binary digits of theirs are.
	known := map[string]bool{}
	for a := range int64(8) {
		for b := range a + 1 {
			wantEqual(t, wins([]int64{a, b}, split, known), pins[a] != pins[b], "rows of pins", a, b)
			for c := range min(b+1, 5) {
				wantEqual(t, wins([]int64{a, b, c}, split, known), pins[a]^pins[b]^pins[c] != 0, "rows of pins", a, b, c)
			}
		}
	}
}

// wantMove tells whether HeapMove finds the first move behind which all games are lost, if there is one.
func wantMove(t *testing.T, heaps, moves []int64, known map[string]bool) {
	t.Helper()
	heap, take, ok := impl.HeapMove(heaps, moves)
	next := taken(moves)
	for i, full := range heaps {
		for _, by := range moves {
			left := slices.Clone(heaps)
			left[i] -= by
			if by > full || wins(left, next, known) {
				continue
			}
			wantEqual(t, ok && heap == int64(i) && take == by, true, "HeapMove", heaps, moves, heap, take, ok, i, by)
			return
		}
	}
	wantEqual(t, !ok && heap == 0 && take == 0, true, "HeapMove where none wins", heaps, moves, heap, take, ok)
	wantEqual(t, wins(heaps, next, known), false, "heaps without a move that wins", heaps, moves)
}

func TestHeapMovesWin(t *testing.T) {
	for _, moves := range [][]int64{{1, 2, 3}, {1, 2, 3, 4, 5, 6, 7, 8}, {2, 3}, {1, 4}, {3}, {2, 5, 6}} {
		known := map[string]bool{}
		for _, heaps := range slices.Concat(allWords(12, 1), allWords(9, 2), allWords(6, 3)) {
			wantMove(t, heaps, moves, known)
		}
	}
	draws := rand.New(rand.NewSource(74))
	for range 50 {
		var heaps []int64
		for range 1 + draws.Intn(4) {
			heaps = append(heaps, draws.Int63n(9))
		}
		wantMove(t, heaps, drawMoves(draws, 1+draws.Intn(8), 9), map[string]bool{})
	}
	cases := []struct {
		heaps, moves []int64
		heap, take   int64
		ok           bool
	}{
		{[]int64{1, 2}, []int64{1, 2, 3}, 1, 1, true},
		{[]int64{1, 2, 3}, []int64{1, 2, 3}, 0, 0, false},
		{[]int64{0}, []int64{1}, 0, 0, false},
		{[]int64{0, 0, 0, 0, 0, 0, 0, 0}, []int64{1, 200}, 0, 0, false},
		{[]int64{200}, []int64{200}, 0, 200, true},
		{[]int64{199}, []int64{200}, 0, 0, false},
		{[]int64{0, 0, 0, 0, 0, 0, 0, 5}, []int64{1, 2, 3}, 7, 1, true},
		{[]int64{5}, []int64{1, 3, 5}, 0, 1, true}, // the least of all moves that win
		{[]int64{7, 7, 3}, []int64{1, 2, 3}, 0, 3, true},
		{[]int64{3, 7, 3}, []int64{1, 2, 3}, 0, 3, true},
		{[]int64{200, 199, 1, 1, 1, 1, 1, 1}, []int64{1, 2, 3}, 0, 1, true},
	}
	for _, c := range cases {
		heap, take, ok := impl.HeapMove(c.heaps, c.moves)
		wantEqual(t, heap == c.heap && take == c.take && ok == c.ok, true, "HeapMove", c, heap, take, ok)
	}
}

func TestBadHeapsFail(t *testing.T) {
	bad := [][]int64{nil, {}, {-1}, {201}, {1, 2, -1}, {201, 1}, make([]int64, 9), append(make([]int64, 8), 3), slices.Repeat([]int64{3}, 1000)}
	for _, far := range farNumbers {
		bad = append(bad, []int64{far}, []int64{1, far}, []int64{far, 2, 3})
	}
	for _, heaps := range bad {
		heap, take, ok := impl.HeapMove(heaps, []int64{1, 2, 3})
		wantEqual(t, ok || heap != 0 || take != 0, false, "HeapMove", heaps)
	}
	for _, moves := range badMoves {
		for _, heaps := range [][]int64{{1, 2}, {0}, {200, 3}} {
			heap, take, ok := impl.HeapMove(heaps, moves)
			wantEqual(t, ok || heap != 0 || take != 0, false, "HeapMove", heaps, moves)
		}
	}
}
