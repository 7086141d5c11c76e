package tests

import (
	"slices"
	"strings"
	"testing"

	"loop.example/g01401/impl"
)

// otherPairs are found by another program, which divides polynomials; no lists where there are no two dice.
var otherPairs = []struct{ die, a, b []int64 }{
	{[]int64{1, 2, 3, 4, 5, 6}, []int64{1, 2, 2, 3, 3, 4}, []int64{1, 3, 4, 5, 6, 8}},
	{[]int64{1, 2, 3, 4}, []int64{1, 2, 2, 3}, []int64{1, 3, 3, 5}},
	{[]int64{1, 2, 4, 5}, []int64{1, 2, 2, 3}, []int64{1, 4, 4, 7}},
	{[]int64{1, 3, 4, 6}, []int64{1, 3, 3, 5}, []int64{1, 4, 4, 7}},
	{[]int64{2, 3, 4, 5, 6, 6}, []int64{1, 2, 3, 4, 5, 5}, []int64{3, 4, 5, 6, 7, 7}},
	{[]int64{2, 4, 6}, []int64{1, 3, 5}, []int64{3, 5, 7}},
	{[]int64{6, 6, 6, 6, 6, 6}, []int64{1, 1, 1, 1, 1, 1}, []int64{11, 11, 11, 11, 11, 11}},
	{[]int64{2, 2, 2, 2, 2, 2}, []int64{1, 1, 1, 1, 1, 1}, []int64{3, 3, 3, 3, 3, 3}},
	{[]int64{5, 6}, []int64{1, 2}, []int64{9, 10}},
	{[]int64{3}, []int64{1}, []int64{5}},
	{[]int64{2}, []int64{1}, []int64{3}},
	{[]int64{1}, nil, nil},
	{[]int64{0}, nil, nil},
	{[]int64{0, 6}, nil, nil},
	{[]int64{0, 0, 0, 0, 0, 0}, nil, nil},
	{[]int64{0, 2, 4}, nil, nil},
	{[]int64{1, 2}, nil, nil},
	{[]int64{1, 2, 3}, nil, nil},
	{[]int64{1, 2, 3, 4, 5}, nil, nil},
	{[]int64{1, 1, 2, 2, 3, 3}, nil, nil},
	{[]int64{1, 6, 6, 6, 6, 6}, nil, nil},
}

// wantPair tells whether a pair of dice is the one that is wanted, or none, if none is wanted.
func wantPair(t *testing.T, d, a, b impl.Die, ok bool, wantA, wantB []int64) {
	t.Helper()
	if ok != (len(wantA) > 0) || !slices.Equal(a.Faces, wantA) || !slices.Equal(b.Faces, wantB) {
		t.Errorf("OtherPair %v: got %v, %v, %v, want %v, %v", d, a, b, ok, wantA, wantB)
	}
}

func TestOtherPairsHaveTheSameSums(t *testing.T) {
	for _, c := range otherPairs {
		d := dieOf(c.die...)
		a, b, ok := impl.OtherPair(d)
		wantPair(t, d, a, b, ok, c.a, c.b)
	}
	var told strings.Builder
	pairs := 0
	for faces := 1; faces <= 6; faces++ {
		for _, d := range allSided(faces, 0, 6) {
			a, b, ok := impl.OtherPair(d)
			if !ok {
				wantPair(t, d, a, b, ok, nil, nil)
				told.WriteString("-;")
				continue
			}
			pairs++
			same, fine := impl.SameSums([]impl.Die{a, b}, manyOf(d, 2))
			wantEqual(t, same && fine, true, "OtherPair has the same sums", d, a, b)
			one, _ := impl.ListText(a.Faces)
			two, _ := impl.ListText(b.Faces)
			told.WriteString(one + " " + two + ";")
		}
	}
	check, _ := impl.CheckOf(0, told.String())
	wantEqual(t, pairs, 471, "how many dice have other pairs")
	wantEqual(t, check, 62641, "the check number of all other pairs")
}

// plainPair finds the first other pair by looking at all.
func plainPair(d impl.Die) ([]int64, []int64) {
	want := plainCounts(manyOf(d, 2), 2)
	for _, a := range allSided(len(d.Faces), 1, 11) {
		for _, b := range allSided(len(d.Faces), 1, 11) {
			isOther := !slices.Equal(a.Faces, d.Faces) || !slices.Equal(b.Faces, d.Faces)
			if isOther && slices.Compare(a.Faces, b.Faces) <= 0 && slices.Equal(plainCounts([]impl.Die{a, b}, 2), want) {
				return a.Faces, b.Faces
			}
		}
	}
	return nil, nil
}

func TestOtherPairsAreTheFirstOnes(t *testing.T) {
	for faces := 1; faces <= 2; faces++ {
		for _, d := range allSided(faces, 0, 6) {
			wantA, wantB := plainPair(d)
			a, b, ok := impl.OtherPair(d)
			wantPair(t, d, a, b, ok, wantA, wantB)
		}
	}
}

func TestOtherPairsFail(t *testing.T) {
	for _, d := range append(slices.Clone(badDice), dieOf(2, 7), dieOf(7), dieOf(20), dieOf(2, 2, 2, 2, 2, 2, 2), dieOf(1, 2, 3, 4, 5, 6, 6), plainSided(8), plainSided(12)) {
		a, b, ok := impl.OtherPair(d)
		wantPair(t, d, a, b, ok, nil, nil)
	}
}

// plainBeats looks at all pairs of faces.
func plainBeats(a, b impl.Die) (int64, int64, int64) {
	var counts [3]int64
	for _, x := range a.Faces {
		for _, y := range b.Faces {
			switch {
			case x > y:
				counts[0]++
			case x < y:
				counts[1]++
			default:
				counts[2]++
			}
		}
	}
	return counts[0], counts[1], counts[2]
}

func TestDiceBeatOneAnother(t *testing.T) {
	cases := []struct {
		a, b                 []int64
		greater, less, equal int64
	}{
		{[]int64{1, 2}, []int64{1, 2, 3, 4, 5, 6}, 1, 9, 2},
		{[]int64{2, 2, 6}, []int64{1, 5, 5}, 5, 4, 0},
		{[]int64{4}, []int64{4}, 0, 0, 1},
		{[]int64{5}, []int64{4}, 1, 0, 0},
		{[]int64{0}, []int64{0, 0, 20}, 0, 1, 2},
		{[]int64{20, 20}, []int64{0, 0, 20}, 4, 0, 2},
	}
	for _, c := range cases {
		greater, less, equal, ok := impl.Beats(dieOf(c.a...), dieOf(c.b...))
		wantEqual(t, told(greater, less, equal, ok), told(c.greater, c.less, c.equal, true), "Beats", c.a, c.b)
	}
	dice := slices.Concat(mixedDice, allSided(3, 0, 4), allSided(1, 0, 4), []impl.Die{plainSided(12), plainSided(6)})
	for _, a := range dice {
		for _, b := range dice {
			greater, less, equal, ok := impl.Beats(a, b)
			x, y, z := plainBeats(a, b)
			wantEqual(t, told(greater, less, equal, ok), told(x, y, z, true), "Beats", a, b)
		}
	}
	for _, bad := range badDice {
		for _, pair := range [][]impl.Die{{bad, plainSided(6)}, {plainSided(6), bad}, {bad, bad}} {
			greater, less, equal, ok := impl.Beats(pair[0], pair[1])
			wantNothing(t, ok, nil, []int64{greater, less, equal}, "Beats", pair)
		}
	}
}

func TestRingsAreTold(t *testing.T) {
	cases := []struct {
		dice []impl.Die
		want bool
	}{
		{diceOf([]int64{2, 2, 6}, []int64{1, 5, 5}, []int64{3, 3, 3}), true},
		{diceOf([]int64{1, 5, 5}, []int64{3, 3, 3}, []int64{2, 2, 6}), true},
		{diceOf([]int64{3, 3, 3}, []int64{1, 5, 5}, []int64{2, 2, 6}), false},
		{diceOf([]int64{0, 0, 4, 4, 4, 4}, []int64{3, 3, 3, 3, 3, 3}, []int64{2, 2, 2, 2, 6, 6}, []int64{1, 1, 1, 5, 5, 5}), true},
		{diceOf([]int64{3}, []int64{2}, []int64{1}), false},                   // the last one does not beat the first one
		{diceOf([]int64{2}, []int64{1}, []int64{3}), false},                   // the second one does not beat the last one
		{diceOf([]int64{1}, []int64{1}, []int64{1}), false},                   // equal faces beat nothing
		{diceOf([]int64{1, 4}, []int64{2, 3}, []int64{1, 4}), false},          // half of all pairs is not more than half
		{diceOf([]int64{2, 4, 9}, []int64{1, 6, 8}, []int64{3, 5, 7}), true},  // five of nine each
		{diceOf([]int64{1, 4, 4}, []int64{3, 3, 3}, []int64{2, 2, 5}), true},  // five or six of nine each
		{diceOf([]int64{2, 2, 6}, []int64{1, 4, 5}, []int64{2, 3, 4}), false}, // the last one is greater in four of nine, and less in three
		{manyOf(plainSided(6), 6), false},
	}
	for _, c := range cases {
		ring, ok := impl.IsRing(c.dice)
		wantEqual(t, ok && ring == c.want, true, "IsRing", c.dice, ring, ok)
	}
	for _, a := range allSided(3, 0, 3) {
		for _, b := range allSided(2, 0, 3) {
			for _, c := range allSided(3, 1, 4) {
				dice := []impl.Die{a, b, c}
				want := true
				for i := range dice {
					wins, losses, ties := plainBeats(dice[i], dice[(i+1)%3])
					want = want && wins > losses+ties
				}
				ring, ok := impl.IsRing(dice)
				wantEqual(t, ok && ring == want, true, "IsRing", dice, ring, ok)
			}
		}
	}
	short := [][]impl.Die{{plainSided(6)}, {dieOf(1), dieOf(2)}, {dieOf(2, 2, 6), dieOf(1, 5, 5)}}
	for _, dice := range append(badLists(), short...) {
		ring, ok := impl.IsRing(dice)
		wantEqual(t, ring || ok, false, "IsRing fails", dice)
	}
}

// plainRing finds the first ring of three dice by looking at all.
func plainRing(faces int, most int64) []impl.Die {
	dice := allSided(faces, 1, most)
	beats := func(a, b impl.Die) bool {
		wins, losses, ties := plainBeats(a, b)
		return wins > losses+ties
	}
	for _, a := range dice {
		for _, b := range dice {
			for _, c := range dice {
				if beats(a, b) && beats(b, c) && beats(c, a) {
					return []impl.Die{a, b, c}
				}
			}
		}
	}
	return nil
}

func TestFirstRingsAreFound(t *testing.T) {
	for faces := int64(2); faces <= 3; faces++ {
		for most := int64(1); most <= 6; most++ {
			want := plainRing(int(faces), most)
			ring, ok := impl.FindRing(faces, most)
			wantEqual(t, told(ring, ok), told(want, want != nil), "FindRing", faces, most)
		}
	}
	ring, ok := impl.FindRing(3, 6)
	wantEqual(t, told(ring, ok), "[{[1 4 4]} {[3 3 3]} {[2 2 5]}] true", "FindRing", 3, 6)
	_, ok = impl.FindRing(3, 4)
	wantEqual(t, ok, false, "FindRing of few faces", 3, 4)
	without([]int64{3, 6}, [][]int64{{0, 1, 4, 6, -3}, {0, 7, 20, -6}}, func(a []int64) {
		ring, ok := impl.FindRing(a[0], a[1])
		wantEqual(t, ok || len(ring) > 0, false, "FindRing fails", a)
	})
}
