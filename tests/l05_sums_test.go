package tests

import (
	"math/big"
	"math/rand"
	"slices"
	"strings"
	"testing"

	"loop.example/g01401/impl"
)

func TestSumsAreCounted(t *testing.T) {
	cases := []struct {
		dice []impl.Die
		want []int64
	}{
		{diceOf([]int64{1, 2}, []int64{1, 2}), []int64{0, 0, 1, 2, 1}},
		{manyOf(plainSided(6), 2), []int64{0, 0, 1, 2, 3, 4, 5, 6, 5, 4, 3, 2, 1}},
		{diceOf([]int64{1, 2, 2, 3, 3, 4}, []int64{1, 3, 4, 5, 6, 8}), []int64{0, 0, 1, 2, 3, 4, 5, 6, 5, 4, 3, 2, 1}},
		{diceOf([]int64{0}), []int64{1}},
		{diceOf([]int64{3}), []int64{0, 0, 0, 1}},
		{diceOf([]int64{0, 0, 0}, []int64{0, 0}), []int64{6}},
		{diceOf([]int64{0, 4}, []int64{0, 0, 1}), []int64{2, 1, 0, 0, 2, 1}},
		{manyOf(dieOf(0), 6), []int64{1}},
		{manyOf(dieOf(5), 3), append(make([]int64, 15), 1)},
	}
	for _, c := range cases {
		counts, ways, ok := impl.SumCounts(c.dice)
		wantSums(t, counts, ways, ok, c.want, "SumCounts", c.dice)
	}
	draws := rand.New(rand.NewSource(51))
	for range 300 {
		dice := drawDice(draws, 4, 6)
		counts, ways, ok := impl.SumCounts(dice)
		wantSums(t, counts, ways, ok, plainCounts(dice, len(dice)), "SumCounts", dice)
	}
	for _, dice := range badLists() {
		counts, ways, ok := impl.SumCounts(dice)
		wantNothing(t, ok, [][]int64{counts}, []int64{ways}, "SumCounts", dice)
	}
}

// bigSums are told by another program: of all counts, the greatest one, and the check number of their text.
var bigSums = []struct {
	dice                           []impl.Die
	long                           int
	most, check                    int64
	ways                           int64
	mean, meanOf, spread, spreadOf int64
}{
	{mixedDice, 66, 79, 54672, 2304, 881, 24, 70387, 576},
	{manyOf(plainSided(12), 6), 73, 137292, 53095, 2985984, 39, 1, 143, 2},
	{manyOf(dieOf(slices.Repeat([]int64{20}, 12)...), 6), 121, 2985984, 61774, 2985984, 120, 1, 0, 1},
	{manyOf(dieOf(0, 0, 0, 0, 0, 0, 20, 20, 20, 20, 20, 20), 6), 121, 933120, 12385, 2985984, 60, 1, 600, 1},
	{manyOf(dieOf(append(make([]int64, 11), 20)...), 6), 121, 1771561, 54762, 2985984, 10, 1, 550, 3},
	{manyOf(plainSided(6), 3), 19, 27, 34603, 216, 21, 2, 35, 4},
	{manyOf(dieOf(5), 6), 31, 1, 59893, 1, 30, 1, 0, 1},
	{diceOf([]int64{0, 20}), 21, 1, 45726, 2, 10, 1, 100, 1},
	{diceOf([]int64{0}), 1, 1, 288, 1, 0, 1, 0, 1},
	{diceOf([]int64{0, 0, 1}, []int64{0, 0, 0, 0, 3}), 5, 8, 59893, 15, 14, 15, 374, 225},
}

func TestBigSumsAreCountedWhole(t *testing.T) {
	for _, c := range bigSums {
		counts, ways, ok := impl.SumCounts(c.dice)
		wantEqual(t, ok && len(counts) == c.long && ways == c.ways && sumOf(counts) == ways, true, "SumCounts", c.dice, counts, ways)
		wantEqual(t, slices.Max(append(counts, 0)), c.most, "the greatest of SumCounts", c.dice)
		var texts []string
		for _, count := range counts {
			texts = append(texts, impl.Decimal(count))
		}
		check, _ := impl.CheckOf(0, strings.Join(texts, ","))
		wantEqual(t, check, c.check, "the check number of SumCounts", c.dice, counts)
	}
}

func TestMeansAreFractions(t *testing.T) {
	for _, c := range bigSums {
		over, under, ok := impl.MeanOf(c.dice)
		wantFraction(t, over, under, ok, c.mean, c.meanOf, "MeanOf", c.dice)
		over, under, ok = impl.SpreadOf(c.dice)
		wantFraction(t, over, under, ok, c.spread, c.spreadOf, "SpreadOf", c.dice)
	}
	draws := rand.New(rand.NewSource(52))
	for range 500 {
		dice := drawDice(draws, 6, 12)
		// Means and spreads of single dice add up to those of all.
		mean, spread := new(big.Rat), new(big.Rat)
		for _, d := range dice {
			faces := big.NewRat(1, int64(len(d.Faces)))
			own := new(big.Rat).Mul(faces, big.NewRat(sumOf(d.Faces), 1))
			mean.Add(mean, own)
			for _, face := range d.Faces {
				away := new(big.Rat).Sub(big.NewRat(face, 1), own)
				spread.Add(spread, away.Mul(away, away).Mul(away, faces))
			}
		}
		over, under, ok := impl.MeanOf(dice)
		wantRat(t, over, under, ok, mean, "MeanOf", dice)
		over, under, ok = impl.SpreadOf(dice)
		wantRat(t, over, under, ok, spread, "SpreadOf", dice)
	}
	for _, dice := range badLists() {
		over, under, ok := impl.MeanOf(dice)
		wantNoFraction(t, over, under, ok, "MeanOf", dice)
		over, under, ok = impl.SpreadOf(dice)
		wantNoFraction(t, over, under, ok, "SpreadOf", dice)
	}
}

func TestSumsAreCompared(t *testing.T) {
	cases := []struct {
		a, b []impl.Die
		want bool
	}{
		{manyOf(plainSided(6), 2), diceOf([]int64{1, 2, 2, 3, 3, 4}, []int64{1, 3, 4, 5, 6, 8}), true},
		{manyOf(plainSided(6), 2), diceOf([]int64{1, 2, 2, 3, 3, 4}, []int64{1, 3, 4, 5, 6, 7}), false},
		{diceOf([]int64{1, 2}), diceOf(counted(7)[1:]), false},
		{diceOf([]int64{1}, []int64{2}), diceOf([]int64{3}), true},
		{diceOf([]int64{0}), diceOf([]int64{0}, []int64{0}, []int64{0}), true},
		{diceOf([]int64{1, 1}), diceOf([]int64{1}), false}, // the same chances, but not as many ways
		{diceOf([]int64{0, 1}, []int64{0, 2}), diceOf([]int64{0, 1, 2, 3}), true},
		{diceOf([]int64{0}), diceOf([]int64{1}), false},
		{mixedDice, mixedDice, true},
	}
	for _, c := range cases {
		for _, pair := range [][2][]impl.Die{{c.a, c.b}, {c.b, c.a}} {
			same, ok := impl.SameSums(pair[0], pair[1])
			wantEqual(t, ok && same == c.want, true, "SameSums", pair, same, ok)
		}
	}
	turned := slices.Clone(mixedDice)
	slices.Reverse(turned)
	same, ok := impl.SameSums(mixedDice, turned)
	wantEqual(t, same && ok, true, "SameSums in another order")
	draws := rand.New(rand.NewSource(53))
	for range 300 {
		a, b := drawDice(draws, 2, 2), drawDice(draws, 2, 2)
		same, ok := impl.SameSums(a, b)
		wantEqual(t, same, slices.Equal(plainCounts(a, len(a)), plainCounts(b, len(b))), "SameSums", a, b)
		wantEqual(t, ok, true, "SameSums succeeds", a, b)
	}
	for _, dice := range badLists() {
		for _, pair := range [][2][]impl.Die{{dice, mixedDice}, {mixedDice, dice}, {dice, dice}} {
			same, ok := impl.SameSums(pair[0], pair[1])
			wantEqual(t, same || ok, false, "SameSums fails", pair)
		}
	}
}

func TestBestFacesAreSummed(t *testing.T) {
	four := []int64{0, 0, 0, 1, 4, 10, 21, 38, 62, 91, 122, 148, 167, 172, 160, 131, 94, 54, 21}
	counts, ways, ok := impl.BestOf(manyOf(plainSided(6), 4), 3)
	wantSums(t, counts, ways, ok, four, "BestOf the best three of four")
	counts, ways, ok = impl.BestOf(diceOf([]int64{1, 2}, []int64{1, 2}), 1)
	wantSums(t, counts, ways, ok, []int64{0, 1, 3}, "BestOf the best one of two")
	counts, ways, ok = impl.BestOf(diceOf([]int64{0}), 1)
	wantSums(t, counts, ways, ok, []int64{1}, "BestOf a face of 0")
	counts, ways, ok = impl.BestOf(diceOf([]int64{20}, []int64{0}, []int64{7}), 2)
	wantSums(t, counts, ways, ok, append(make([]int64, 27), 1), "BestOf dice of one face")
	draws := rand.New(rand.NewSource(54))
	for range 200 {
		dice := drawDice(draws, 5, 5)
		for keep := range len(dice) {
			counts, ways, ok := impl.BestOf(dice, int64(keep)+1)
			wantSums(t, counts, ways, ok, plainCounts(dice, keep+1), "BestOf", dice, keep+1)
		}
		counts, ways, ok := impl.BestOf(dice, int64(len(dice)))
		sums, all, fine := impl.SumCounts(dice)
		wantEqual(t, told(counts, ways, ok), told(sums, all, fine), "BestOf all faces", dice)
	}
}

func TestBestFacesHaveFewWays(t *testing.T) {
	ten, none := plainSided(10), [][]int64{nil}
	counts, ways, ok := impl.BestOf(manyOf(ten, 5), 2)
	wantEqual(t, ok && ways == 100000 && sumOf(counts) == ways && len(counts) == 21, true, "BestOf the most ways", counts, ways, ok)
	counts, ways, ok = impl.BestOf(append(manyOf(ten, 5), dieOf(3)), 6)
	wantEqual(t, ok && ways == 100000 && sumOf(counts) == ways && len(counts) == 54, true, "BestOf the most ways of six", counts, ways, ok)
	// The second one of these has 100352 ways, the least number of ways above the limit.
	for _, dice := range [][]impl.Die{append(manyOf(ten, 5), dieOf(3, 3)), append(manyOf(plainSided(8), 3), plainSided(7), plainSided(7), dieOf(0, 1, 2, 3)),
		manyOf(plainSided(12), 5), manyOf(plainSided(12), 6), append(manyOf(ten, 4), plainSided(11))} {
		for keep := range int64(len(dice)) {
			counts, ways, ok := impl.BestOf(dice, keep+1)
			wantNothing(t, ok, append(none, counts), []int64{ways}, "BestOf too many ways", dice, keep+1)
		}
	}
	for _, keep := range append([]int64{0, -2, 4, 6}, farNumbers...) {
		counts, ways, ok := impl.BestOf(manyOf(plainSided(4), 3), keep)
		wantNothing(t, ok, append(none, counts), []int64{ways}, "BestOf", keep)
	}
	for _, dice := range badLists() {
		counts, ways, ok := impl.BestOf(dice, 1)
		wantNothing(t, ok, append(none, counts), []int64{ways}, "BestOf", dice)
	}
}
