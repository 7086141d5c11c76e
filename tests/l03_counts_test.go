package tests

import (
	"fmt"
	"math"
	"math/big"
	"math/rand"
	"slices"
	"testing"

	"loop.example/g01401/impl"
)

// kindCounts has ranks, suits and how many hands of each kind there are; they are computed by another program, which looks at all hands.
var kindCounts = []struct {
	ranks, suits int64
	want         []int64
}{
	{5, 1, []int64{0, 0, 0, 0, 0, 0, 0, 0, 1}},
	{5, 2, []int64{0, 160, 60, 0, 30, 0, 0, 0, 2}},
	{5, 3, []int64{0, 1620, 810, 270, 240, 0, 60, 0, 3}},
	{5, 4, []int64{0, 7680, 4320, 1920, 1020, 0, 480, 80, 4}},
	{6, 1, []int64{0, 0, 0, 0, 0, 3, 0, 0, 3}},
	{6, 2, []int64{90, 480, 120, 0, 90, 6, 0, 0, 6}},
	{6, 3, []int64{720, 4860, 1620, 540, 720, 9, 90, 0, 9}},
	{6, 4, []int64{3060, 23040, 8640, 3840, 3060, 12, 720, 120, 12}},
	{7, 1, []int64{0, 0, 0, 0, 0, 17, 0, 0, 4}},
	{7, 3, []int64{4080, 11340, 2835, 945, 960, 51, 126, 0, 12}},
	{7, 4, []int64{17340, 53760, 15120, 6720, 4080, 68, 1008, 168, 16}},
	{8, 3, []int64{12240, 22680, 4536, 1512, 1200, 153, 168, 0, 15}},
	{9, 3, []int64{28800, 40824, 6804, 2268, 1440, 360, 216, 0, 18}},
	{10, 2, []int64{7350, 6720, 720, 0, 210, 490, 0, 0, 14}},
	{11, 2, []int64{13620, 10560, 990, 0, 240, 908, 0, 0, 16}},
	{12, 2, []int64{23490, 15840, 1320, 0, 270, 1566, 0, 0, 18}},
	{13, 1, []int64{0, 0, 0, 0, 0, 1277, 0, 0, 10}},
	{13, 2, []int64{38310, 22880, 1716, 0, 300, 2554, 0, 0, 20}},
	{13, 4, []int64{1302540, 1098240, 123552, 54912, 10200, 5108, 3744, 624, 40}},
}

func TestKindsAreCounted(t *testing.T) {
	for _, c := range kindCounts {
		counts, ok := impl.KindCounts(c.ranks, c.suits)
		wantList(t, counts, ok, c.want, "KindCounts", c.ranks, c.suits)
	}
	for ranks := int64(5); ranks <= 13; ranks++ {
		for suits := int64(1); suits <= 4; suits++ {
			counts, ok := impl.KindCounts(ranks, suits)
			all := new(big.Int).Binomial(ranks*suits, 5).Int64()
			wantEqual(t, ok && len(counts) == 9 && sumOf(counts) == all, true, "KindCounts add up", ranks, suits, counts)
		}
	}
	bad := [][2]int64{{4, 4}, {14, 4}, {0, 1}, {-5, 2}, {13, 0}, {13, 5}, {13, -1}, {5, 0}, {5, 5}, {4, 13}, {math.MinInt64, 1}, {math.MaxInt64, 1}, {13, math.MinInt64}, {13, math.MaxInt64}}
	for _, b := range bad {
		counts, ok := impl.KindCounts(b[0], b[1])
		wantNoList(t, counts, ok, "KindCounts", b)
	}
}

func TestOutsReachAValue(t *testing.T) {
	outs, ok := impl.OutsOf([]int64{0, 13, 26, 4, 5}, 7*371293)
	wantList(t, outs, ok, []int64{39}, "OutsOf")
	outs, ok = impl.OutsOf([]int64{0, 13, 26, 4, 5}, 8*371293)
	wantList(t, outs, ok, nil, "OutsOf none")
	outs, ok = impl.OutsOf([]int64{0, 1, 2, 3, 17, 40}, 5*371293)
	wantList(t, outs, ok, []int64{4, 5, 6, 7, 8, 9, 10, 11, 12}, "OutsOf a suit")
	outs, ok = impl.OutsOf([]int64{0, 1, 2, 16, 30}, 4*371293+5*28561)
	wantList(t, outs, ok, []int64{5, 18, 31, 44}, "OutsOf a greater row")
	draws := rand.New(rand.NewSource(41))
	for i := range 60 {
		hand := drawLikeHand(draws, 5+i%2)
		values := []int64{math.MinInt64, -1, 0, math.MaxInt64}
		reached := map[int64]int64{}
		for card := range int64(52) {
			if !slices.Contains(hand, card) {
				_, reached[card] = plainBest(append(slices.Clone(hand), card))
				values = append(values, reached[card], reached[card]+1)
			}
		}
		slices.Sort(values)
		for _, value := range slices.Compact(values) {
			want := []int64{}
			for card := range int64(52) {
				if most, ok := reached[card]; ok && most >= value {
					want = append(want, card)
				}
			}
			outs, ok := impl.OutsOf(hand, value)
			wantList(t, outs, ok, want, "OutsOf", hand, value)
		}
	}
	for _, hand := range append(slices.Clone(badHands), counted(1), counted(4), counted(7)) {
		outs, ok := impl.OutsOf(hand, 0)
		wantNoList(t, outs, ok, "OutsOf", hand)
	}
}

// plainFace finds the face of a hand by exchanging suits in all ways.
func plainFace(hand []int64) []int64 {
	var first []int64
	for _, suits := range allDecks(4) {
		changed := suitsChanged(hand, suits)
		slices.Sort(changed)
		if first == nil || slices.Compare(changed, first) < 0 {
			first = changed
		}
	}
	return first
}

func TestFacesAreFirst(t *testing.T) {
	cases := []struct{ hand, face []int64 }{
		{[]int64{26, 13}, []int64{0, 13}},
		{[]int64{51}, []int64{12}},
		{[]int64{51, 38}, []int64{12, 25}},
		{[]int64{39, 14}, []int64{0, 14}},
		{[]int64{1, 13, 14}, []int64{0, 1, 14}}, // the suit with more cards comes first, if they begin alike
		{[]int64{0, 13, 14}, []int64{0, 1, 13}},
		{[]int64{0, 12, 13, 25, 26}, []int64{0, 12, 13, 25, 26}},
		{[]int64{39, 27, 15, 3}, []int64{0, 14, 28, 42}},
		{[]int64{1, 2, 3, 13, 26, 39, 51}, []int64{0, 12, 13, 26, 40, 41, 42}},
	}
	for _, c := range cases {
		face, ok := impl.FaceOf(c.hand)
		wantList(t, face, ok, c.face, "FaceOf", c.hand)
	}
	draws := rand.New(rand.NewSource(42))
	for i := range 2000 {
		hand := drawHand(draws, 1+i%7)
		if i%2 == 0 {
			hand = drawLikeHand(draws, 1+i%7)
		}
		want := plainFace(hand)
		face, ok := impl.FaceOf(hand)
		wantList(t, face, ok, want, "FaceOf", hand)
		again, ok := impl.FaceOf(face)
		wantList(t, again, ok, want, "FaceOf a face", face)
	}
	for _, hand := range badHands {
		face, ok := impl.FaceOf(hand)
		wantNoList(t, face, ok, "FaceOf", hand)
	}
}

func TestFacesAreCounted(t *testing.T) {
	faces := map[string]bool{}
	for a := range int64(52) {
		for b := range a {
			faces[fmt.Sprint(plainFace([]int64{a, b}))] = true
		}
	}
	wantEqual(t, len(faces), 169, "faces of two cards")
	for i, want := range []int64{13, 169, 1755} {
		count, ok := impl.FacesOf(int64(i) + 1)
		wantInteger(t, count, ok, want, "FacesOf", i+1)
	}
	for _, n := range []int64{0, -1, 4, 7, 52, math.MinInt64, math.MaxInt64} {
		count, ok := impl.FacesOf(n)
		wantNoInteger(t, count, ok, "FacesOf", n)
	}
}
