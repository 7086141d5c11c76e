package tests

import (
	"math/rand"
	"slices"
	"testing"

	"loop.example/g01401/impl"
)

// plainLegal returns, ascending, the cards that may be played to a card.
func plainLegal(hand []int64, led int64) []int64 {
	var same, all []int64
	for card := range int64(52) {
		if !slices.Contains(hand, card) {
			continue
		}
		all = append(all, card)
		if card/13 == led/13 {
			same = append(same, card)
		}
	}
	if same != nil {
		return same
	}
	return all
}

// plainTakes tells by ranks and suits whether the card led wins.
func plainTakes(led, other, trump int64) bool {
	switch {
	case led/13 == other/13:
		return led%13 > other%13
	case other/13 == trump:
		return false
	}
	return true
}

// lessCard returns a hand without a card.
func lessCard(hand []int64, card int64) []int64 {
	left := slices.Clone(hand)
	i := slices.Index(left, card)
	return slices.Delete(left, i, i+1)
}

// plainPlay plays out all tricks, and returns how many of them the hand one wins, and the cards as they are played.
func plainPlay(one, two []int64, first bool, trump int64) (int64, []int64) {
	leads, follows := one, two
	if !first {
		leads, follows = two, one
	}
	var best int64
	var line []int64
	for _, led := range slices.Sorted(slices.Values(leads)) {
		var answered int64
		var answer []int64
		for _, other := range plainLegal(follows, led) {
			taken := plainTakes(led, other, trump)
			mine, others := led, other
			if !first {
				mine, others = other, led
			}
			tricks, rest := plainPlay(lessCard(one, mine), lessCard(two, others), taken == first, trump)
			if taken == first {
				tricks++
			}
			if answer == nil || first && tricks < answered || !first && tricks > answered {
				answered, answer = tricks, append([]int64{led, other}, rest...)
			}
		}
		if line == nil || first && answered > best || !first && answered < best {
			best, line = answered, answer
		}
	}
	return best, line
}

// plainLines counts all ways to play hands.
func plainLines(one, two []int64, first bool) int64 {
	if len(one) == 0 {
		return 1
	}
	leads, follows := one, two
	if !first {
		leads, follows = two, one
	}
	lines := int64(0)
	for _, led := range leads {
		for _, other := range plainLegal(follows, led) {
			mine, others := led, other
			if !first {
				mine, others = other, led
			}
			lines += plainLines(lessCard(one, mine), lessCard(two, others), plainTakes(led, other, -1) == first)
		}
	}
	return lines
}

// wantPlayed tells whether all functions of tricks tell what is wanted of two hands.
func wantPlayed(t *testing.T, one, two []int64, first bool, trump, tricks int64, line []int64) {
	t.Helper()
	best, ok := impl.TrickBest(one, two, first, trump)
	wantInteger(t, best, ok, tricks, "TrickBest", one, two, first, trump)
	played, ok := impl.TrickLine(one, two, first, trump)
	wantList(t, played, ok, line, "TrickLine", one, two, first, trump)
	card, ok := impl.TrickCard(one, two, first, trump)
	if len(line) == 0 {
		wantNoInteger(t, card, ok, "TrickCard of empty hands", first, trump)
		return
	}
	wantInteger(t, card, ok, line[0], "TrickCard", one, two, first, trump)
}

func TestHandsOfTricksAreKnown(t *testing.T) {
	good := [][2][]int64{{nil, nil}, {{}, nil}, {{0}, {51}}, {{12, 0}, {11, 1}}, {{5, 4, 3, 2, 1, 0}, {46, 47, 48, 49, 50, 51}}}
	for _, p := range good {
		wantEqual(t, impl.AreHands(p[0], p[1]), true, "AreHands", p)
	}
	for _, p := range badPairs {
		wantEqual(t, impl.AreHands(p[0], p[1]), false, "AreHands", p)
	}
}

func TestLegalPlaysFollowSuits(t *testing.T) {
	cases := []struct {
		hand []int64
		led  int64
		want []int64
	}{
		{[]int64{14, 3, 1}, 5, []int64{1, 3}},
		{[]int64{14, 3, 1}, 13, []int64{14}},
		{[]int64{14, 3, 1}, 25, []int64{14}},
		{[]int64{14, 3, 1}, 26, []int64{1, 3, 14}},
		{[]int64{14, 3, 1}, 51, []int64{1, 3, 14}},
		{[]int64{14, 3, 1}, 3, []int64{1, 3}},
		{[]int64{51}, 0, []int64{51}},
		{[]int64{0}, 12, []int64{0}},
		{[]int64{13}, 12, []int64{13}},
		{[]int64{51, 38, 25, 12, 39, 26}, 40, []int64{39, 51}},
	}
	for _, c := range cases {
		plays, ok := impl.LegalPlays(c.hand, c.led)
		wantList(t, plays, ok, c.want, "LegalPlays", c.hand, c.led)
	}
	draws := rand.New(rand.NewSource(61))
	for range 200 {
		hand := drawHand(draws, 1+draws.Intn(6))
		for led := range int64(52) {
			plays, ok := impl.LegalPlays(hand, led)
			wantList(t, plays, ok, plainLegal(hand, led), "LegalPlays", hand, led)
		}
	}
	for _, hand := range badHands {
		plays, ok := impl.LegalPlays(hand, 5)
		wantNoList(t, plays, ok, "LegalPlays", len(hand))
	}
	plays, ok := impl.LegalPlays(counted(7), 5)
	wantNoList(t, plays, ok, "LegalPlays of seven cards")
	for _, led := range append([]int64{-1, 52}, farNumbers...) {
		plays, ok := impl.LegalPlays([]int64{14, 3, 1}, led)
		wantNoList(t, plays, ok, "LegalPlays", led)
	}
}

func TestTricksAreWon(t *testing.T) {
	for led := range int64(52) {
		for other := range int64(52) {
			for trump := int64(-1); trump < 4; trump++ {
				wins, ok := impl.WinsTrick(led, other, trump)
				if led == other {
					wantEqual(t, wins || ok, false, "WinsTrick of the same card", led, trump)
					continue
				}
				wantEqual(t, ok && wins == plainTakes(led, other, trump), true, "WinsTrick", led, other, trump, wins, ok)
			}
		}
	}
	cases := []struct {
		led, other, trump int64
		want              bool
	}{
		{3, 1, -1, true}, {1, 3, -1, false}, {3, 13, 1, false}, {3, 13, -1, true}, {3, 13, 0, true}, {3, 13, 2, true}, {13, 25, 1, false}, {25, 13, 1, true},
		{0, 51, 2, true}, {0, 51, 3, false},
	}
	for _, c := range cases {
		wins, ok := impl.WinsTrick(c.led, c.other, c.trump)
		wantEqual(t, ok && wins == c.want, true, "WinsTrick", c)
	}
	without([]int64{3, 1, 0}, [][]int64{{-1, 52}, {-1, 52}, nil}, func(a []int64) {
		if a[2] != -1 {
			wins, ok := impl.WinsTrick(a[0], a[1], a[2])
			wantEqual(t, wins || ok, false, "WinsTrick", a)
		}
	})
	for _, trump := range badTrumps {
		wins, ok := impl.WinsTrick(3, 1, trump)
		wantEqual(t, wins || ok, false, "WinsTrick", trump)
	}
}

func TestTricksArePlayedBest(t *testing.T) {
	draws := rand.New(rand.NewSource(62))
	for n := range 5 {
		for range 150 {
			ranks := 2 + draws.Intn(12)
			suits := min(4, 1+draws.Intn(4)+2*n/ranks)
			if ranks*suits < 2*n {
				continue
			}
			one, two := deal(draws, n, ranks, suits)
			first, trump := draws.Intn(2) == 0, draws.Int63n(5)-1
			tricks, line := plainPlay(one, two, first, trump)
			wantPlayed(t, one, two, first, trump, tricks, line)
		}
	}
	// Hands of five and six cards, in suits that must be followed often.
	for range 6 {
		one, two := deal(draws, 5, 7, 2)
		tricks, line := plainPlay(one, two, true, 1)
		wantPlayed(t, one, two, true, 1, tricks, line)
	}
	cases := []struct {
		one, two      []int64
		first         bool
		trump, tricks int64
		line          []int64
	}{
		{[]int64{12, 0}, []int64{11, 1}, true, -1, 1, []int64{0, 1, 11, 12}},
		{[]int64{12, 0}, []int64{11, 1}, false, -1, 1, []int64{1, 0, 11, 12}},
		{[]int64{0}, []int64{51}, true, -1, 1, []int64{0, 51}},
		{[]int64{0}, []int64{51}, true, 3, 0, []int64{0, 51}},
		{[]int64{0}, []int64{51}, false, -1, 0, []int64{51, 0}},
		{[]int64{0}, []int64{51}, false, 0, 1, []int64{51, 0}},
		// These are computed by another program.
		{[]int64{27, 43, 4, 39, 38, 40}, []int64{22, 28, 32, 7, 49, 24}, true, 3, 3, []int64{4, 7, 22, 27, 24, 39, 38, 28, 40, 49, 32, 43}},
		{[]int64{26, 2, 46, 22, 35, 29}, []int64{39, 36, 18, 3, 47, 40}, false, 2, 3, []int64{3, 2, 18, 22, 26, 36, 47, 46, 39, 29, 35, 40}},
		{[]int64{20, 25, 9, 23, 7, 8}, []int64{12, 22, 21, 11, 24, 10}, false, 1, 2, []int64{10, 7, 11, 8, 12, 9, 21, 20, 22, 23, 25, 24}},
		{[]int64{5, 7, 10, 33, 25, 6}, []int64{8, 32, 38, 22, 9, 12}, true, 1, 2, []int64{25, 22, 5, 8, 9, 10, 6, 12, 38, 33, 32, 7}},
		{[]int64{12, 1, 9, 2, 11, 4}, []int64{8, 6, 5, 7, 10, 3}, true, 3, 3, []int64{1, 3, 5, 2, 6, 4, 7, 9, 11, 8, 12, 10}},
		{[]int64{37, 22, 23, 34, 36, 12}, []int64{11, 24, 21, 9, 35, 25}, true, 3, 4, []int64{12, 9, 36, 35, 34, 11, 37, 21, 22, 24, 25, 23}},
		{[]int64{49, 21, 1, 16, 11}, []int64{29, 24, 18, 36, 13}, true, 1, 1, []int64{1, 13, 24, 16, 29, 11, 36, 21, 49, 18}},
		{[]int64{24, 38, 37, 25, 23}, []int64{12, 11, 36, 22, 35}, true, -1, 5, []int64{23, 22, 24, 11, 25, 12, 37, 35, 38, 36}},
		{[]int64{37, 24, 22, 12, 10, 50}, []int64{51, 48, 36, 23, 11, 49}, false, 0, 5, []int64{11, 12, 10, 23, 22, 36, 24, 48, 37, 49, 50, 51}},
		{[]int64{13, 20, 25, 9, 5, 1}, []int64{7, 6, 10, 18, 24, 21}, false, 1, 3, []int64{6, 9, 1, 7, 10, 5, 18, 20, 13, 21, 24, 25}},
	}
	for _, c := range cases {
		wantPlayed(t, c.one, c.two, c.first, c.trump, c.tricks, c.line)
	}
}

// TestTricksAreSharedOut exchanges hands and suits of great hands: what one hand wins, the other one does not, and suits have no order.
func TestTricksAreSharedOut(t *testing.T) {
	draws := rand.New(rand.NewSource(63))
	for range 100 {
		n := 1 + draws.Intn(6)
		one, two := deal(draws, n, 6+draws.Intn(8), 2+draws.Intn(3))
		first, trump := draws.Intn(2) == 0, draws.Int63n(5)-1
		mine, ok := impl.TrickBest(one, two, first, trump)
		others, fine := impl.TrickBest(two, one, !first, trump)
		wantEqual(t, ok && fine && mine+others == int64(n) && mine >= 0 && others >= 0, true, "TrickBest of both", one, two, first, trump, mine, others)
		suits := []int64{0, 1, 2, 3}
		draws.Shuffle(4, func(i, k int) { suits[i], suits[k] = suits[k], suits[i] })
		changed := trump
		if trump >= 0 {
			changed = suits[trump]
		}
		again, ok := impl.TrickBest(suitsChanged(one, suits), suitsChanged(two, suits), first, changed)
		wantInteger(t, again, ok, mine, "TrickBest of other suits", one, two, first, trump, suits)
		slices.Reverse(one)
		again, ok = impl.TrickBest(one, two, first, trump)
		wantInteger(t, again, ok, mine, "TrickBest of a turned hand", one, two, first, trump)
	}
}

// TestLinesWinNoMore plays the best cards of one hand against all cards of the other one.
func TestLinesWinNoMore(t *testing.T) {
	draws := rand.New(rand.NewSource(64))
	for range 30 {
		one, two := deal(draws, 4, 7, 2)
		trump := draws.Int63n(3) - 1
		most, _ := impl.TrickBest(one, two, true, trump)
		card, _ := impl.TrickCard(one, two, true, trump)
		for _, other := range plainLegal(two, card) {
			wins, _ := impl.WinsTrick(card, other, trump)
			rest, ok := impl.TrickBest(lessCard(one, card), lessCard(two, other), wins, trump)
			if wins {
				rest++
			}
			wantEqual(t, ok && rest >= most, true, "TrickCard wins no less", one, two, trump, card, other)
		}
		for _, led := range one {
			reached := int64(4)
			for _, other := range plainLegal(two, led) {
				wins, _ := impl.WinsTrick(led, other, trump)
				rest, _ := impl.TrickBest(lessCard(one, led), lessCard(two, other), wins, trump)
				if wins {
					rest++
				}
				reached = min(reached, rest)
			}
			wantEqual(t, reached <= most && (reached < most || led >= card), true, "no card wins more, and no less card as much", one, two, trump, led, card)
		}
	}
}

func TestEmptyAndBadHandsArePlayed(t *testing.T) {
	for _, first := range []bool{true, false} {
		for trump := int64(-1); trump < 4; trump++ {
			wantPlayed(t, nil, nil, first, trump, 0, nil)
			wantPlayed(t, []int64{}, nil, first, trump, 0, nil)
		}
		for _, p := range badPairs {
			best, ok := impl.TrickBest(p[0], p[1], first, -1)
			wantNoInteger(t, best, ok, "TrickBest", p)
			card, ok := impl.TrickCard(p[0], p[1], first, -1)
			wantNoInteger(t, card, ok, "TrickCard", p)
			line, ok := impl.TrickLine(p[0], p[1], first, -1)
			wantNoList(t, line, ok, "TrickLine", p)
		}
		for _, trump := range badTrumps {
			for _, hands := range [][2][]int64{{{12, 0}, {11, 1}}, {}} {
				best, ok := impl.TrickBest(hands[0], hands[1], first, trump)
				wantNoInteger(t, best, ok, "TrickBest", trump)
				card, ok := impl.TrickCard(hands[0], hands[1], first, trump)
				wantNoInteger(t, card, ok, "TrickCard", trump)
				line, ok := impl.TrickLine(hands[0], hands[1], first, trump)
				wantNoList(t, line, ok, "TrickLine", trump)
			}
		}
	}
}

func TestLinesAreCounted(t *testing.T) {
	draws := rand.New(rand.NewSource(65))
	for n := range 5 {
		for range 40 {
			one, two := deal(draws, n, 4+draws.Intn(10), 2+draws.Intn(3))
			lines, ok := impl.CountLines(one, two)
			wantInteger(t, lines, ok, plainLines(one, two, true), "CountLines", one, two)
		}
	}
	cases := []struct {
		one, two []int64
		want     int64
	}{
		{nil, nil, 1},
		{[]int64{0}, []int64{51}, 1},
		{[]int64{12, 0}, []int64{11, 1}, 4},
		{[]int64{0, 1, 2, 3}, []int64{13, 14, 15, 16}, 576},
		// These are computed by another program.
		{[]int64{40, 7, 16, 30}, []int64{13, 48, 10, 21}, 88},
		{[]int64{9, 6, 4, 36}, []int64{8, 29, 31, 49}, 84},
		{[]int64{10, 9, 6, 23}, []int64{22, 11, 20, 18}, 72},
		{[]int64{22, 23, 36, 11}, []int64{9, 37, 10, 24}, 44},
		{[]int64{7, 27, 25}, []int64{17, 46, 47}, 24},
		{[]int64{25, 10, 8, 12}, []int64{22, 23, 9, 24}, 120},
		{[]int64{5, 0, 6, 9}, []int64{4, 8, 3, 11}, 576},
	}
	for _, c := range cases {
		lines, ok := impl.CountLines(c.one, c.two)
		wantInteger(t, lines, ok, c.want, "CountLines", c.one, c.two)
	}
	for _, p := range append(slices.Clone(badPairs), [2][]int64{counted(5), counted(10)[5:]}, [2][]int64{counted(6), counted(12)[6:]}) {
		lines, ok := impl.CountLines(p[0], p[1])
		wantNoInteger(t, lines, ok, "CountLines", p)
	}
}

func TestBestsAreShared(t *testing.T) {
	draws := rand.New(rand.NewSource(66))
	for count := 1; count <= 8; count++ {
		for trump := int64(-1); trump < 4; trump++ {
			var ones, twos [][]int64
			var want []int64
			for range count {
				one, two := deal(draws, draws.Intn(7), 13, 4)
				best, _ := impl.TrickBest(one, two, true, trump)
				ones, twos, want = append(ones, one), append(twos, two), append(want, best)
			}
			for workers := int64(1); workers <= 8; workers++ {
				bests, ok := impl.BestsShared(ones, twos, trump, workers)
				wantList(t, bests, ok, want, "BestsShared", ones, twos, trump, workers)
			}
		}
	}
	good, other := [][]int64{{12, 0}, nil}, [][]int64{{11, 1}, {}}
	bests, ok := impl.BestsShared(good, other, -1, 2)
	wantList(t, bests, ok, []int64{1, 0}, "BestsShared")
	for _, workers := range append([]int64{0, -1, 9}, farNumbers...) {
		bests, ok := impl.BestsShared(good, other, -1, workers)
		wantNoList(t, bests, ok, "BestsShared", workers)
	}
	for _, trump := range badTrumps {
		bests, ok := impl.BestsShared(good, other, trump, 2)
		wantNoList(t, bests, ok, "BestsShared", trump)
	}
	for _, p := range badPairs {
		for at := range 3 {
			bests, ok := impl.BestsShared(slices.Insert(slices.Clone(good), at, p[0]), slices.Insert(slices.Clone(other), at, p[1]), -1, 3)
			wantNoList(t, bests, ok, "BestsShared", p, at)
		}
	}
	for _, c := range [][2]int{{0, 0}, {1, 2}, {2, 1}, {0, 1}, {1, 0}, {9, 9}, {8, 9}, {1000, 1000}} {
		bests, ok := impl.BestsShared(make([][]int64, c[0]), make([][]int64, c[1]), -1, 2)
		wantNoList(t, bests, ok, "BestsShared of pairs", c)
	}
	bests, ok = impl.BestsShared(make([][]int64, 8), make([][]int64, 8), 3, 8)
	wantList(t, bests, ok, make([]int64, 8), "BestsShared of empty hands")
}
