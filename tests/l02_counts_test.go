package tests

import (
	"fmt"
	"math"
	"math/big"
	"slices"
	"testing"

	"loop.example/g01401/impl"
)

// plainDescents counts descents by their definition.
func plainDescents(deck []int64) int64 {
	count := int64(0)
	for place := range len(deck) - 1 {
		if deck[place] > deck[place+1] {
			count++
		}
	}
	return count
}

// plainRuns counts rising runs by walking through a deck again and again.
func plainRuns(deck []int64) int64 {
	next, runs := int64(0), int64(0)
	for next < int64(len(deck)) {
		runs++
		for _, card := range deck {
			if card == next {
				next++
			}
		}
	}
	return runs
}

func TestDescentsAndRunsAreTold(t *testing.T) {
	cases := []struct {
		deck           []int64
		descents, runs int64
	}{
		{[]int64{0}, 0, 1},
		{[]int64{0, 1}, 0, 1},
		{[]int64{1, 0}, 1, 2},
		{[]int64{2, 0, 1}, 1, 2},
		{[]int64{1, 2, 0}, 1, 2},
		{[]int64{2, 1, 0}, 2, 3},
		{[]int64{3, 0, 2, 1}, 2, 3},
		{[]int64{2, 0, 3, 1}, 2, 2},
		{[]int64{1, 3, 0, 2}, 1, 3},
		{counted(52), 0, 1},
	}
	for _, c := range cases {
		descents, ok := impl.DescentsOf(c.deck)
		wantInteger(t, descents, ok, c.descents, "DescentsOf", c.deck)
		runs, ok := impl.RisingRuns(c.deck)
		wantInteger(t, runs, ok, c.runs, "RisingRuns", c.deck)
	}
	for _, deck := range someDecks() {
		descents, ok := impl.DescentsOf(deck)
		wantInteger(t, descents, ok, plainDescents(deck), "DescentsOf", deck)
		runs, ok := impl.RisingRuns(deck)
		wantInteger(t, runs, ok, plainRuns(deck), "RisingRuns", deck)
	}
	for _, deck := range badDecks {
		descents, ok := impl.DescentsOf(deck)
		wantNoInteger(t, descents, ok, "DescentsOf", deck)
		runs, ok := impl.RisingRuns(deck)
		wantNoInteger(t, runs, ok, "RisingRuns", deck)
	}
}

// badRankSizes are numbers of cards for which there are no ranks.
var badRankSizes = []int64{0, -1, 21, 52, 1 << 32, math.MinInt64, math.MaxInt64}

func sumOf(list []int64) int64 {
	sum := int64(0)
	for _, x := range list {
		sum += x
	}
	return sum
}

func factorial(n int64) int64 {
	all := int64(1)
	for i := range n {
		all *= i + 1
	}
	return all
}

func TestDescentsAreCounted(t *testing.T) {
	for n := int64(1); n <= 7; n++ {
		want := make([]int64, n)
		for _, deck := range allDecks(n) {
			want[plainDescents(deck)]++
		}
		counts, ok := impl.DescentCounts(n)
		wantList(t, counts, ok, want, "DescentCounts", n)
	}
	for n := int64(1); n <= 20; n++ {
		counts, ok := impl.DescentCounts(n)
		wantEqual(t, ok && len(counts) == int(n) && sumOf(counts) == factorial(n), true, "DescentCounts of all decks", n, counts)
	}
	// These are computed by another program.
	counts, ok := impl.DescentCounts(20)
	wantList(t, counts, ok, []int64{1, 1048555, 3464764515, 1026509354985, 73008517581444, 1879708669896492,
		21598596303099900, 124748182104463860, 388588260723953310, 679562217794156938, 679562217794156938,
		388588260723953310, 124748182104463860, 21598596303099900, 1879708669896492, 73008517581444,
		1026509354985, 3464764515, 1048555, 1}, "DescentCounts", 20)
	for _, n := range badRankSizes {
		counts, ok := impl.DescentCounts(n)
		wantNoList(t, counts, ok, "DescentCounts", n)
	}
}

func TestMatchesAreCounted(t *testing.T) {
	for n := int64(1); n <= 7; n++ {
		want := make([]int64, n+1)
		for _, deck := range allDecks(n) {
			matches := 0
			for place, card := range deck {
				if card == int64(place) {
					matches++
				}
			}
			want[matches]++
		}
		counts, ok := impl.MatchCounts(n)
		wantList(t, counts, ok, want, "MatchCounts", n)
	}
	for n := int64(1); n <= 20; n++ {
		counts, ok := impl.MatchCounts(n)
		wantEqual(t, ok && len(counts) == int(n)+1 && sumOf(counts) == factorial(n), true, "MatchCounts of all decks", n, counts)
	}
	// These are computed by another program.
	counts, ok := impl.MatchCounts(20)
	wantList(t, counts, ok, []int64{895014631192902121, 895014631192902120, 447507315596451070, 149169105198816960,
		37292276299704525, 7458455259939936, 1243075876659240, 177582268088640, 22197783520770, 2466420377200,
		246642054516, 22421988160, 1868513010, 143722080, 10271400, 682176, 43605, 2280, 190, 0, 1}, "MatchCounts", 20)
	for _, n := range badRankSizes {
		counts, ok := impl.MatchCounts(n)
		wantNoList(t, counts, ok, "MatchCounts", n)
	}
}

// riffledWays counts in how many ways each deck of n cards arises from times riffles, by riffling in each way.
func riffledWays(n int64, times int) map[string]int64 {
	decks := map[string][]int64{fmt.Sprint(counted(n)): counted(n)}
	ways := map[string]int64{fmt.Sprint(counted(n)): 1}
	for range times {
		nextDecks, nextWays := map[string][]int64{}, map[string]int64{}
		for text, deck := range decks {
			for bits := range 1 << n {
				late := make([]bool, n)
				for i := range late {
					late[i] = bits>>i&1 == 1
				}
				riffled, _ := impl.RiffleBy(deck, late)
				nextDecks[fmt.Sprint(riffled)] = riffled
				nextWays[fmt.Sprint(riffled)] += ways[text]
			}
		}
		decks, ways = nextDecks, nextWays
	}
	return ways
}

func TestRiffleWaysAreThoseOfRiffles(t *testing.T) {
	for n := int64(1); n <= 5; n++ {
		for times := int64(1); times <= 4; times++ {
			ways := riffledWays(n, int(times))
			for _, deck := range allDecks(n) {
				got, ok := impl.RiffleWays(n, plainRuns(deck), times)
				wantInteger(t, got, ok, ways[fmt.Sprint(deck)], "RiffleWays", deck, times)
			}
		}
	}
}

func TestRiffleWaysAddUp(t *testing.T) {
	for n := int64(1); n <= 12; n++ {
		counts, _ := impl.DescentCounts(n)
		for times := int64(1); times <= 4; times++ {
			sum, all := new(big.Int), new(big.Int).Lsh(big.NewInt(1), uint(n*times))
			for i, count := range counts {
				ways, ok := impl.RiffleWays(n, int64(i)+1, times)
				want := new(big.Int).Binomial(1<<times+n-int64(i)-1, n)
				wantInteger(t, ways, ok, want.Int64(), "RiffleWays", n, i+1, times)
				sum.Add(sum, new(big.Int).Mul(big.NewInt(ways), big.NewInt(count)))
			}
			wantEqual(t, sum.Cmp(all), 0, "RiffleWays of all decks", n, times, sum)
		}
	}
	bad := [][3]int64{{0, 0, 1}, {0, 1, 1}, {-1, 1, 1}, {13, 1, 1}, {12, 0, 1}, {12, 13, 1}, {12, -1, 1}, {5, 6, 4}, {5, 5, 0}, {5, 5, 5}, {5, 1, -1}, {1, 2, 1},
		{math.MinInt64, 1, 1}, {math.MaxInt64, 1, 1}, {5, math.MinInt64, 1}, {5, math.MaxInt64, 1}, {5, 1, math.MinInt64}, {5, 1, math.MaxInt64}}
	for _, b := range bad {
		ways, ok := impl.RiffleWays(b[0], b[1], b[2])
		wantNoInteger(t, ways, ok, "RiffleWays", b)
	}
	ways, ok := impl.RiffleWays(12, 1, 4)
	wantInteger(t, ways, ok, 17383860, "RiffleWays", 12, 1, 4)
	ways, ok = impl.RiffleWays(3, 3, 1)
	wantInteger(t, ways, ok, 0, "RiffleWays of too many runs")
}

// distances has how far riffles are from even, for 1 to 4 of them, by cards; they are computed by another program.
var distances = [][4][2]int64{
	{{0, 1}, {0, 1}, {0, 1}, {0, 1}},
	{{1, 4}, {1, 8}, {1, 16}, {1, 32}},
	{{1, 3}, {7, 48}, {13, 192}, {25, 768}},
	{{1, 2}, {9, 32}, {37, 256}, {149, 2048}},
	{{31, 40}, {929, 2560}, {6789, 40960}, {51189, 655360}},
	{{331, 360}, {873, 2048}, {15709, 65536}, {258605, 2097152}},
	{{4919, 5040}, {191027, 322560}, {11944381, 41287680}, {360005899, 2642411520}},
	{{5009, 5040}, {13398863, 20643840}, {87751, 262144}, {6039827, 33554432}},
}

func TestRifflesAreFarFromEven(t *testing.T) {
	for i, row := range distances {
		for j, want := range row {
			over, under, ok := impl.FarFromEven(int64(i)+1, int64(j)+1)
			wantEqual(t, ok && over == want[0] && under == want[1], true, "FarFromEven", i+1, j+1, over, under)
		}
	}
	bad := [][2]int64{{0, 1}, {-1, 1}, {9, 1}, {12, 1}, {20, 1}, {21, 1}, {8, 0}, {8, 5}, {8, -1}, {1, 0}, {1, 5},
		{math.MinInt64, 1}, {math.MaxInt64, 1}, {3, math.MinInt64}, {3, math.MaxInt64}}
	for _, b := range bad {
		over, under, ok := impl.FarFromEven(b[0], b[1])
		wantEqual(t, !ok && over == 0 && under == 0, true, "FarFromEven fails", b, over, under)
	}
}

func TestFarFromEvenIsThatOfRiffles(t *testing.T) {
	for n := int64(1); n <= 4; n++ {
		for times := int64(1); times <= 3; times++ {
			ways := riffledWays(n, int(times))
			sum := new(big.Rat)
			for _, deck := range allDecks(n) {
				chance := big.NewRat(ways[fmt.Sprint(deck)], 1<<(n*times))
				chance.Sub(chance, big.NewRat(1, factorial(n)))
				sum.Add(sum, chance.Abs(chance))
			}
			sum.Mul(sum, big.NewRat(1, 2))
			over, under, ok := impl.FarFromEven(n, times)
			same := ok && slices.Equal([]int64{over, under}, []int64{sum.Num().Int64(), sum.Denom().Int64()})
			wantEqual(t, same, true, "FarFromEven", n, times, over, under, sum)
		}
	}
}
