package tests

import (
	"math"
	"math/rand"
	"slices"
	"testing"

	"loop.example/g01401/impl"
)

// winCases have hands and boards, and how often each hand wins and shares; they are computed by another program.
var winCases = []struct {
	hands      [][]int64
	board      []int64
	ups, ties  []int64
	boardCount int64
}{
	{[][]int64{{12, 25}, {11, 24}}, []int64{0, 14, 28}, []int64{891, 75}, []int64{24, 24}, 990},
	{[][]int64{{0, 1}, {13, 14}, {26, 27}}, []int64{5, 18, 33}, []int64{45, 45, 45}, []int64{768, 768, 768}, 903},
	{[][]int64{{51, 50}, {38, 37}, {12, 24}, {3, 4}}, []int64{10, 23, 49, 2}, []int64{0, 0, 0, 13}, []int64{27, 27, 27, 3}, 40},
	{[][]int64{{9, 22}, {8, 7}, {35, 48}, {40, 1}}, []int64{6, 5, 19}, []int64{15, 310, 0, 73}, []int64{422, 0, 422, 0}, 820},
	{[][]int64{{12, 11}, {25, 24}}, []int64{0, 15, 30}, []int64{45, 45}, []int64{900, 900}, 990},
	{[][]int64{{2, 3}, {15, 16}}, []int64{7, 9, 24, 12, 38}, []int64{1, 0}, []int64{0, 0}, 1},
	{[][]int64{{0, 13}, {1, 14}}, []int64{26, 39, 5, 6, 7}, []int64{1, 0}, []int64{0, 0}, 1},
	{[][]int64{{0, 13}, {1, 14}}, []int64{8, 22, 36, 50, 12}, []int64{0, 0}, []int64{1, 1}, 1}, // the board is the best of both
}

func TestWinsAreCounted(t *testing.T) {
	for _, c := range winCases {
		ups, ties, count, ok := impl.WinCounts(c.hands, c.board)
		wantWins(t, ups, ties, count, ok, c.ups, c.ties, c.boardCount, "WinCounts", c.hands, c.board)
	}
}

// plainWins adds who wins with a board of five cards.
func plainWins(hands [][]int64, board, ups, ties []int64) {
	var values []int64
	for _, hand := range hands {
		_, value := plainBest(append(slices.Clone(hand), board...))
		values = append(values, value)
	}
	most, count := slices.Max(values), 0
	for _, value := range values {
		if value == most {
			count++
		}
	}
	for i, value := range values {
		if value == most && count == 1 {
			ups[i]++
		} else if value == most {
			ties[i]++
		}
	}
}

// dealHands deals hands and a board.
func dealHands(draws *rand.Rand, seats, cards int) ([][]int64, []int64) {
	all := drawHand(draws, 2*seats+cards)
	var hands [][]int64
	for i := range seats {
		hands = append(hands, all[2*i:2*i+2])
	}
	return hands, all[2*seats:]
}

func TestWinsAreCountedForEachBoard(t *testing.T) {
	draws := rand.New(rand.NewSource(51))
	for seats := 2; seats <= 4; seats++ {
		for range 12 {
			hands, board := dealHands(draws, seats, 4)
			wantUps, wantTies, count := make([]int64, seats), make([]int64, seats), int64(0)
			for card := range int64(52) {
				if !slices.Contains(slices.Concat(append(slices.Clone(hands), board)...), card) {
					plainWins(hands, append(slices.Clone(board), card), wantUps, wantTies)
					count++
				}
			}
			ups, ties, total, ok := impl.WinCounts(hands, board)
			wantWins(t, ups, ties, total, ok, wantUps, wantTies, count, "WinCounts", hands, board)
		}
	}
	for i, c := range winCases {
		// Each board has one hand that wins alone, or at least two that share.
		ups, ties, count, ok := impl.WinCounts(c.hands, c.board)
		shared := count - sumOf(ups)
		wantEqual(t, ok && sumOf(ties) >= 2*shared && sumOf(ties) <= int64(len(c.hands))*shared, true, "WinCounts add up", i, ups, ties, count)
	}
}

func TestWinsDoNotMindOrderAndSuits(t *testing.T) {
	c := winCases[3]
	for _, suits := range allDecks(4)[:12] {
		var hands [][]int64
		for i := range c.hands {
			hand := suitsChanged(c.hands[(i+1)%4], suits)
			hands = append(hands, []int64{hand[1], hand[0]})
		}
		board := suitsChanged(c.board, suits)
		slices.Reverse(board)
		ups, ties, count, ok := impl.WinCounts(hands, board)
		wantUps, wantTies := append(slices.Clone(c.ups[1:]), c.ups[0]), append(slices.Clone(c.ties[1:]), c.ties[0])
		wantWins(t, ups, ties, count, ok, wantUps, wantTies, c.boardCount, "WinCounts of other suits", hands, board)
	}
}

// drawnCases have hands, a board, a seed, how many draws, and wins, shares and the seed then; they are computed by another program.
var drawnCases = []struct {
	hands       [][]int64
	board       []int64
	seed, count int64
	ups, ties   []int64
	then        int64
}{
	{[][]int64{{12, 25}, {11, 24}}, nil, 0, 256, []int64{217, 39}, []int64{0, 0}, 2854566144},
	{[][]int64{{0, 1}, {13, 14}, {26, 27}}, []int64{5}, 4294967295, 100, []int64{16, 3, 2}, []int64{79, 79, 79}, 1287709071},
	{[][]int64{{51, 50}, {38, 37}, {12, 24}, {3, 4}}, []int64{10, 23}, 77, 256, []int64{4, 6, 1, 91}, []int64{154, 154, 154, 5}, 3579169613},
	{[][]int64{{12, 25}, {11, 24}}, []int64{3, 4, 5}, 123456789, 64, []int64{60, 2}, []int64{2, 2}, 3894684053},
	{[][]int64{{12, 25}, {11, 24}}, []int64{3, 4, 5, 6}, 2147483648, 31, []int64{30, 0}, []int64{1, 1}, 3621074693},
	{[][]int64{{12, 25}, {11, 24}}, []int64{3, 4, 5, 6, 7}, 99, 5, []int64{0, 0}, []int64{5, 5}, 99}, // no card is drawn
	{[][]int64{{7, 51}, {20, 33}}, []int64{}, 1, 1, []int64{1, 0}, []int64{0, 0}, 217083232},
}

func TestWinsAreDrawn(t *testing.T) {
	for _, c := range drawnCases {
		ups, ties, seed, ok := impl.DrawnWins(c.hands, c.board, c.seed, c.count)
		wantWins(t, ups, ties, seed, ok, c.ups, c.ties, c.then, "DrawnWins", c.hands, c.board, c.seed, c.count)
	}
	draws := rand.New(rand.NewSource(52))
	for i := range 40 {
		seats := 2 + i%3
		hands, board := dealHands(draws, seats, i%6)
		wantUps, wantTies, start := make([]int64, seats), make([]int64, seats), draws.Int63n(1<<32)
		seed := uint32(start)
		for range 9 {
			drawn := slices.Clone(board)
			known := slices.Concat(append(slices.Clone(hands), board)...)
			for len(drawn) < 5 {
				seed = 1664525*seed + 1013904223
				index := int(uint64(seed) * uint64(52-len(known)) >> 32)
				for card := range int64(52) {
					if slices.Contains(known, card) {
						continue
					}
					if index == 0 {
						drawn, known = append(drawn, card), append(known, card)
						break
					}
					index--
				}
			}
			plainWins(hands, drawn, wantUps, wantTies)
		}
		ups, ties, then, ok := impl.DrawnWins(hands, board, start, 9)
		wantWins(t, ups, ties, then, ok, wantUps, wantTies, int64(seed), "DrawnWins", hands, board, start)
	}
}

// badDeals are hands and boards that are no deal.
var badDeals = []struct {
	hands [][]int64
	board []int64
}{
	{nil, []int64{5, 6, 7}},
	{[][]int64{{0, 1}}, []int64{5, 6, 7}},
	{[][]int64{{0, 1}, {2, 3}, {10, 11}, {12, 13}, {14, 15}}, []int64{5, 6, 7}},
	{[][]int64{{0, 1}, {2}}, []int64{5, 6, 7}},
	{[][]int64{{0, 1}, {2, 3, 4}}, []int64{5, 6, 7}},
	{[][]int64{{0, 1}, nil}, []int64{5, 6, 7}},
	{[][]int64{{0, 1}, {2, 1}}, []int64{5, 6, 7}},
	{[][]int64{{0, 1}, {2, 2}}, []int64{5, 6, 7}},
	{[][]int64{{0, 1}, {2, 3}}, []int64{5, 6, 6}},
	{[][]int64{{0, 1}, {2, 3}}, []int64{5, 6, 0}},
	{[][]int64{{0, 1}, {2, 3}}, []int64{5, 6, 3}},
	{[][]int64{{0, 1}, {2, 52}}, []int64{5, 6, 7}},
	{[][]int64{{-1, 1}, {2, 3}}, []int64{5, 6, 7}},
	{[][]int64{{0, 1}, {2, 3}}, []int64{5, 6, 52}},
	{[][]int64{{0, 1}, {2, 3}}, []int64{5, 6, -1}},
	{[][]int64{{0, 1}, {2, math.MaxInt64}}, []int64{5, 6, math.MinInt64}},
	{[][]int64{{0, 1}, {2, 3}}, []int64{5, 6, 7, 8, 9, 10}},
	{[][]int64{{0, 1}, counted(1000)}, []int64{5, 6, 7}},
	{slices.Repeat([][]int64{{0, 1}}, 1000), []int64{5, 6, 7}},
}

func TestDealsFail(t *testing.T) {
	for _, b := range badDeals {
		ups, ties, count, ok := impl.WinCounts(b.hands, b.board)
		wantNothing(t, ok, [][]int64{ups, ties}, []int64{count}, "WinCounts", b.hands, b.board)
		ups, ties, count, ok = impl.DrawnWins(b.hands, b.board, 7, 3)
		wantNothing(t, ok, [][]int64{ups, ties}, []int64{count}, "DrawnWins", b.hands, b.board)
	}
	hands := [][]int64{{0, 13}, {1, 14}}
	for _, board := range [][]int64{nil, {}, {26}, {26, 39}} {
		ups, ties, count, ok := impl.WinCounts(hands, board)
		wantNothing(t, ok, [][]int64{ups, ties}, []int64{count}, "WinCounts of a short board", board)
		_, _, _, ok = impl.DrawnWins(hands, board, 7, 3)
		wantEqual(t, ok, true, "DrawnWins of a short board", board)
	}
	for _, b := range [][2]int64{{-1, 3}, {1 << 32, 3}, {math.MinInt64, 3}, {math.MaxInt64, 3}, {7, 0}, {7, -1}, {7, 257}, {7, math.MinInt64}, {7, math.MaxInt64}} {
		ups, ties, count, ok := impl.DrawnWins(hands, []int64{5, 6, 7, 8, 9}, b[0], b[1])
		wantNothing(t, ok, [][]int64{ups, ties}, []int64{count}, "DrawnWins", b)
	}
}
