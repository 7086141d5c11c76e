package tests

import (
	"math"
	"math/rand"
	"slices"
	"testing"

	"loop.example/g01401/impl"
)

// badPans tell for coins where they lie, but not as they must.
var badPans = []struct {
	coins int64
	pans  []int64
}{
	{3, []int64{1, 0, 0}}, {3, []int64{1, 1, 0}}, {3, []int64{1, 1, -1}}, {3, []int64{0, 0, -1}}, {3, []int64{2, -2, 0}}, {3, []int64{2, -1, -1}}, {2, []int64{1, -2}},
	{3, []int64{1, -1, 0, 1, 0, 0}}, {3, []int64{0, 0, 1, 0, 0, -1}}, {3, []int64{1, -1}}, {3, []int64{1, -1, 0, 0}}, {3, []int64{0}}, {2, []int64{0}},
	{2, make([]int64, 10)}, {1, make([]int64, 5)}, {27, make([]int64, 135)}, {27, make([]int64, 28)}, {28, make([]int64, 28)}, {28, nil},
	{0, nil}, {0, make([]int64, 2)}, {-1, nil}, {-1, []int64{0}}, {-3, []int64{1, -1, 0}}, {1, []int64{1}}, {1, []int64{-1}},
	{2, []int64{math.MinInt64, math.MinInt64}}, {2, []int64{math.MaxInt64, -math.MaxInt64}}, {2, make([]int64, 1<<20)},
	{math.MinInt64, nil}, {math.MaxInt64, nil}, {math.MinInt64, make([]int64, 4)}, {math.MaxInt64, make([]int64, 4)}, {1 << 32, make([]int64, 4)}, {1<<32 + 1, make([]int64, 4)},
}

// drawPans draws where coins lie, weighing by weighing.
func drawPans(draws *rand.Rand, coins, weighings int) []int64 {
	var pans []int64
	for range weighings {
		weighing := make([]int64, coins)
		order := draws.Perm(coins)
		for pairs := draws.Intn(coins/2 + 1); pairs > 0; pairs-- {
			weighing[order[2*pairs-2]], weighing[order[2*pairs-1]] = 1, -1
		}
		pans = append(pans, weighing...)
	}
	return pans
}

// plainWeigh weighs coins, one of which weighs 1 more, or none.
func plainWeigh(coins int, pans []int64, heavy int64) []int64 {
	shown := []int64{}
	for from := 0; from < len(pans); from += coins {
		left, right := 0, 0
		for coin := range coins {
			weight := 10
			if int64(coin) == heavy {
				weight = 11
			}
			switch pans[from+coin] {
			case 1:
				left += weight
			case -1:
				right += weight
			}
		}
		shown = append(shown, int64(left-right))
	}
	return shown
}

// plainLeft looks at all that can be heavy.
func plainLeft(coins int, pans, shown []int64) []int64 {
	var left []int64
	for heavy := int64(-1); heavy < int64(coins); heavy++ {
		if slices.Equal(plainWeigh(coins, pans, heavy), shown) {
			left = append(left, heavy)
		}
	}
	return left
}

// wantWeighed tells whether all functions of coins tell what is told by weighing.
func wantWeighed(t *testing.T, coins int, pans []int64) {
	t.Helper()
	isPlan := true
	for heavy := int64(-1); heavy < int64(coins); heavy++ {
		want := plainWeigh(coins, pans, heavy)
		shown, ok := impl.WeighCoins(int64(coins), pans, heavy)
		wantList(t, shown, ok, want, "WeighCoins", coins, pans, heavy)
		left, ok := impl.CoinsLeft(int64(coins), pans, want)
		wantList(t, left, ok, plainLeft(coins, pans, want), "CoinsLeft", coins, pans, want)
		wantEqual(t, slices.Contains(left, heavy), true, "CoinsLeft has the heavy one", coins, pans, heavy)
		isPlan = isPlan && len(plainLeft(coins, pans, want)) == 1
	}
	plan, ok := impl.IsCoinPlan(int64(coins), pans)
	wantEqual(t, ok && plan == isPlan, true, "IsCoinPlan", coins, pans, plan, ok)
}

func TestCoinsAreWeighed(t *testing.T) {
	draws := rand.New(rand.NewSource(62))
	for coins := 1; coins <= 27; coins++ {
		for weighings := range 5 {
			for range 6 {
				wantWeighed(t, coins, drawPans(draws, coins, weighings))
			}
		}
	}
	pans := []int64{1, -1, 0}
	shown, ok := impl.WeighCoins(3, pans, 1)
	wantList(t, shown, ok, []int64{-1}, "WeighCoins", 3, pans, 1)
	shown, ok = impl.WeighCoins(3, []int64{1, -1, 0, 0, -1, 1, -1, 1, 0}, 1)
	wantList(t, shown, ok, []int64{-1, -1, 1}, "WeighCoins three times")
	shown, ok = impl.WeighCoins(3, nil, 2)
	wantList(t, shown, ok, nil, "WeighCoins without weighings")
	for _, heavy := range append([]int64{-2, -3, 3, 4, 9}, farNumbers...) {
		if heavy != -1 {
			shown, ok := impl.WeighCoins(3, pans, heavy)
			wantNoList(t, shown, ok, "WeighCoins", heavy)
		}
	}
	for _, c := range badPans {
		shown, ok := impl.WeighCoins(c.coins, c.pans, -1)
		wantNoList(t, shown, ok, "WeighCoins", c.coins, len(c.pans))
		shown, ok = impl.WeighCoins(c.coins, c.pans, 0)
		wantNoList(t, shown, ok, "WeighCoins", c.coins, len(c.pans))
	}
}

func TestHeavyCoinsAreLeft(t *testing.T) {
	cases := []struct {
		coins             int64
		pans, shown, want []int64
	}{
		{3, []int64{1, -1, 0}, []int64{0}, []int64{-1, 2}},
		{3, []int64{1, -1, 0}, []int64{1}, []int64{0}},
		{3, []int64{1, -1, 0}, []int64{-1}, []int64{1}},
		{3, nil, nil, []int64{-1, 0, 1, 2}},
		{1, nil, nil, []int64{-1, 0}},
		{1, []int64{0, 0, 0, 0}, []int64{0, 0, 0, 0}, []int64{-1, 0}},
		{1, []int64{0}, []int64{1}, nil}, // nothing can have shown this
		{4, []int64{1, -1, 0, 0, 1, 0, -1, 0}, []int64{1, -1}, nil},
		{4, []int64{1, 1, -1, -1}, []int64{-1}, []int64{2, 3}},
		{4, []int64{1, 1, -1, -1}, []int64{0}, []int64{-1}},
	}
	for _, c := range cases {
		left, ok := impl.CoinsLeft(c.coins, c.pans, c.shown)
		wantList(t, left, ok, c.want, "CoinsLeft", c)
	}
	draws := rand.New(rand.NewSource(63))
	for range 300 {
		coins, weighings := 1+draws.Intn(27), draws.Intn(5)
		pans := drawPans(draws, coins, weighings)
		all := 0
		for _, symbols := range allWords(3, weighings) {
			shown := []int64{}
			for _, symbol := range symbols {
				shown = append(shown, symbol-1)
			}
			left, ok := impl.CoinsLeft(int64(coins), pans, shown)
			wantList(t, left, ok, plainLeft(coins, pans, shown), "CoinsLeft", coins, pans, shown)
			all += len(left)
		}
		wantEqual(t, all, coins+1, "CoinsLeft tells each one once", coins, pans)
	}
	pans := []int64{1, -1, 0, 0, 1, -1}
	for _, shown := range [][]int64{nil, {0}, {0, 0, 0}, {0, 2}, {-2, 0}, {0, math.MinInt64}, {math.MaxInt64, 0}, make([]int64, 1000)} {
		left, ok := impl.CoinsLeft(3, pans, shown)
		wantNoList(t, left, ok, "CoinsLeft", shown)
	}
	left, ok := impl.CoinsLeft(3, nil, []int64{0})
	wantNoList(t, left, ok, "CoinsLeft without weighings")
	for _, c := range badPans {
		for long := range 6 {
			left, ok := impl.CoinsLeft(c.coins, c.pans, make([]int64, long))
			wantNoList(t, left, ok, "CoinsLeft", c.coins, len(c.pans), long)
		}
	}
}

// fullPlan returns pans by which 3 to the power of weighings, less 1, coins are told apart, each heavy one by what is shown:
// all that can be shown but nothing, each weighing as often to the left as to the right.
func fullPlan(weighings int) (int64, []int64) {
	words := allWords(3, weighings)
	var pans []int64
	for weighing := range weighings {
		for _, word := range words {
			if slices.ContainsFunc(word, func(symbol int64) bool { return symbol != 1 }) {
				pans = append(pans, word[weighing]-1)
			}
		}
	}
	return int64(len(words) - 1), pans
}

func TestCoinPlansTellEachCoin(t *testing.T) {
	for weighings := 1; weighings <= 3; weighings++ {
		coins, pans := fullPlan(weighings)
		plan, ok := impl.IsCoinPlan(coins, pans)
		wantEqual(t, plan && ok, true, "IsCoinPlan of all that can be shown", coins, pans)
		plan, ok = impl.IsCoinPlan(coins, append(slices.Clone(pans), make([]int64, coins)...))
		wantEqual(t, plan && ok, true, "IsCoinPlan with an empty weighing", coins)
		plan, ok = impl.IsCoinPlan(coins, pans[coins:])
		wantEqual(t, !plan && ok, true, "IsCoinPlan with a weighing less", coins)
		two := slices.Clone(pans)
		for from := 0; from < len(two); from += int(coins) {
			// The first coin and the last one take their places off the pans.
			two[from], two[from+int(coins)-1] = 0, 0
		}
		plan, ok = impl.IsCoinPlan(coins, two)
		wantEqual(t, !plan && ok, true, "IsCoinPlan that tells two not from none", coins)
	}
	cases := []struct {
		coins int64
		pans  []int64
		want  bool
	}{
		{3, []int64{1, -1, 0}, false}, // the last coin is not told from none
		{2, []int64{1, -1}, true},
		{1, nil, false},
		{1, []int64{0, 0, 0, 0}, false},
		{27, nil, false},
		{4, []int64{1, 1, -1, -1}, false},
		{4, []int64{1, 1, -1, -1, 1, -1, 1, -1}, true},
		{3, []int64{1, -1, 0, 1, 0, -1}, true},
		{3, []int64{1, -1, 0, 1, -1, 0}, false},
		{4, []int64{1, -1, 0, 0, 0, 0, 1, -1}, true},
		{4, []int64{1, -1, 0, 0, 1, 0, -1, 0}, false}, // the last coin lies nowhere
	}
	for _, c := range cases {
		plan, ok := impl.IsCoinPlan(c.coins, c.pans)
		wantEqual(t, ok && plan == c.want, true, "IsCoinPlan", c, plan, ok)
	}
	for _, c := range badPans {
		plan, ok := impl.IsCoinPlan(c.coins, c.pans)
		wantEqual(t, plan || ok, false, "IsCoinPlan fails", c.coins, len(c.pans))
	}
}
