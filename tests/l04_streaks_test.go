package tests

import (
	"math"
	"math/big"
	"slices"
	"testing"

	"loop.example/g01401/impl"
)

func TestStreaksAreCounted(t *testing.T) {
	for trials := int64(1); trials <= 12; trials++ {
		want := make([]int64, trials+1)
		for _, word := range allWords(2, int(trials)) {
			want[plainStreak(word)]++
		}
		counts, ok := impl.StreakCounts(trials)
		wantList(t, counts, ok, want, "StreakCounts", trials)
		for long := int64(1); long <= trials; long++ {
			count, ok := impl.StreakCount(trials, long)
			wantInteger(t, count, ok, sumOf(want[long:]), "StreakCount", trials, long)
		}
	}
	// These are computed by another program.
	cases := [][3]int64{{3, 2, 3}, {1, 1, 1}, {10, 4, 251}, {33, 5, 3435591712}, {60, 1, 1152921504606846975}, {60, 2, 1152917451867309095},
		{60, 3, 1144313558794471391}, {60, 12, 7024819551623424}, {60, 13, 3445367389025440}, {60, 30, 17179869184}, {60, 59, 3}, {60, 60, 1}}
	for _, c := range cases {
		count, ok := impl.StreakCount(c[0], c[1])
		wantInteger(t, count, ok, c[2], "StreakCount", c)
	}
	counts, ok := impl.StreakCounts(60)
	wantList(t, counts, ok, []int64{1, 4052739537880, 8603893072837704, 128982675347350520, 297539782988468028, 292569172593612443,
		196632706194419632, 111467908985946464, 58480679284439309, 29602969595822067, 14735911625626613, 7276932627162891, 3579452162597984,
		1757118787417257, 861548730347511, 422108717305856, 206685385955584, 101150103709040, 49476952654217, 24189027745799, 11819702091776,
		5772426149888, 2817496543232, 1374389139456, 670014822656, 326417500672, 158913787568, 77309410952, 37580963789, 18253611003,
		8858370048, 4294967296, 2080374784, 1006632960, 486539264, 234881024, 113246208, 54525952, 26214400, 12582912, 6029312, 2883584,
		1376256, 655360, 311296, 147456, 69632, 32768, 15360, 7168, 3328, 1536, 704, 320, 144, 64, 28, 12, 5, 2, 1}, "StreakCounts", 60)
}

func TestStreaksAddUp(t *testing.T) {
	for trials := int64(1); trials <= 60; trials++ {
		counts, ok := impl.StreakCounts(trials)
		wantEqual(t, ok && len(counts) == int(trials)+1 && sumOf(counts) == 1<<trials, true, "StreakCounts add up", trials, counts)
		for long := int64(1); long <= trials; long++ {
			count, ok := impl.StreakCount(trials, long)
			wantInteger(t, count, ok, sumOf(counts[long:]), "StreakCount is that of all longer ones", trials, long)
		}
	}
	without([]int64{9, 4}, [][]int64{{0, -9, 3, 61}, {0, -4, 10, 60}}, func(a []int64) {
		count, ok := impl.StreakCount(a[0], a[1])
		wantNoInteger(t, count, ok, "StreakCount", a)
	})
	for _, a := range [][2]int64{{0, 0}, {1, 0}, {1, 2}, {60, 61}, {61, 61}, {61, 1}, {-1, -1}} {
		count, ok := impl.StreakCount(a[0], a[1])
		wantNoInteger(t, count, ok, "StreakCount", a)
	}
	for _, trials := range append([]int64{0, 61, 1000}, farNumbers...) {
		counts, ok := impl.StreakCounts(trials)
		wantNoList(t, counts, ok, "StreakCounts", trials)
	}
}

func TestCouponsAreCounted(t *testing.T) {
	for kinds := int64(1); kinds <= 5; kinds++ {
		for draws := range 6 {
			want := make([]int64, kinds+1)
			for _, row := range allWords(kinds, draws) {
				slices.Sort(row)
				want[len(slices.Compact(row))]++
			}
			counts, ok := impl.CouponCounts(kinds, int64(draws))
			wantList(t, counts, ok, want, "CouponCounts", kinds, draws)
		}
	}
	for kinds := int64(1); kinds <= 10; kinds++ {
		for draws := int64(0); draws <= 15; draws++ {
			counts, ok := impl.CouponCounts(kinds, draws)
			rows := new(big.Int).Exp(big.NewInt(kinds), big.NewInt(draws), nil).Int64()
			wantEqual(t, ok && len(counts) == int(kinds)+1 && sumOf(counts) == rows, true, "CouponCounts add up", kinds, draws, counts)
		}
	}
	// These are computed by another program.
	counts, ok := impl.CouponCounts(10, 15)
	wantList(t, counts, ok, []int64{0, 10, 1474470, 1710072720, 213473988000, 6373591660800, 63608822877600, 247206758198400, 393049552896000,
		243595864512000, 45950224320000}, "CouponCounts", 10, 15)
	counts, ok = impl.CouponCounts(10, 9)
	wantList(t, counts, ok, []int64{0, 10, 22950, 2178000, 39160800, 210198240, 400075200, 279417600, 65318400, 3628800, 0}, "CouponCounts", 10, 9)
	counts, ok = impl.CouponCounts(10, 0)
	wantList(t, counts, ok, []int64{1, 0, 0, 0, 0, 0, 0, 0, 0, 0, 0}, "CouponCounts of no draws", 10)
	without([]int64{4, 5}, [][]int64{{0, -4, 11}, {-5, 16}}, func(a []int64) {
		counts, ok := impl.CouponCounts(a[0], a[1])
		wantNoList(t, counts, ok, "CouponCounts", a)
	})
}

func TestCouponsTakeDraws(t *testing.T) {
	wants := [][2]int64{{1, 1}, {3, 1}, {11, 2}, {25, 3}, {137, 12}, {147, 10}, {363, 20}, {761, 35}, {7129, 280}, {7381, 252}, {83711, 2520},
		{86021, 2310}, {1145993, 27720}, {1171733, 25740}, {1195757, 24024}, {2436559, 45045}, {42142223, 720720}, {42822903, 680680},
		{275295799, 4084080}, {279175675, 3879876}}
	for i, want := range wants {
		kinds := int64(i) + 1
		over, under, ok := impl.CouponMean(kinds)
		wantFraction(t, over, under, ok, want[0], want[1], "CouponMean", kinds)
		sum := new(big.Rat)
		for have := range kinds {
			sum.Add(sum, big.NewRat(kinds, kinds-have))
		}
		wantRat(t, over, under, ok, sum, "CouponMean", kinds)
	}
	for _, kinds := range append([]int64{0, -20, 21, 60}, farNumbers...) {
		over, under, ok := impl.CouponMean(kinds)
		wantNoFraction(t, over, under, ok, "CouponMean", kinds)
	}
}

func TestBirthdaysMiss(t *testing.T) {
	// These are computed by another program.
	cases := [][4]int64{{4, 3, 3, 8}, {365, 2, 364, 365}, {365, 3, 132132, 133225}, {365, 7, 446324498972352, 472919457153125},
		{35, 12, 13051550932992, 110341894140625}, {1000, 6, 24627119381847, 25000000000000}, {12, 12, 1925, 35831808}, {7, 7, 720, 117649},
		{23, 12, 28158588057600, 952809757913927}, {11, 12, 0, 1}, {2, 3, 0, 1}, {1, 12, 0, 1}, {1, 1, 1, 1}, {1, 0, 1, 1}, {1000, 0, 1, 1}, {1000, 1, 1, 1}}
	for _, c := range cases {
		over, under, ok := impl.BirthdayMiss(c[0], c[1])
		wantFraction(t, over, under, ok, c[2], c[3], "BirthdayMiss", c)
	}
	most := big.NewInt(4000000000000000000)
	for days := int64(1); days <= 1000; days++ {
		miss := big.NewRat(1, 1)
		for people := int64(0); people <= 12; people++ {
			over, under, ok := impl.BirthdayMiss(days, people)
			if new(big.Int).Exp(big.NewInt(days), big.NewInt(people), nil).Cmp(most) > 0 {
				wantNoFraction(t, over, under, ok, "BirthdayMiss of too many rows", days, people)
				continue
			}
			wantRat(t, over, under, ok, miss, "BirthdayMiss", days, people)
			miss.Mul(miss, big.NewRat(max(days-people, 0), days))
		}
	}
	without([]int64{9, 4}, [][]int64{{0, -9, 1001}, {-4, 13}}, func(a []int64) {
		over, under, ok := impl.BirthdayMiss(a[0], a[1])
		wantNoFraction(t, over, under, ok, "BirthdayMiss", a)
	})
	for _, a := range [][2]int64{{0, 0}, {1, 13}, {1, math.MaxInt64}, {36, 12}, {454, 7}, {455, 7}, {1001, 0}, {1001, 2}} {
		over, under, ok := impl.BirthdayMiss(a[0], a[1])
		wantEqual(t, ok, a == [2]int64{454, 7}, "BirthdayMiss at its limits", a, over, under)
	}
}

func TestBirthdaysAreShared(t *testing.T) {
	// These are computed by another program.
	cases := map[int64]int64{1: 2, 2: 2, 3: 3, 4: 3, 5: 3, 6: 4, 7: 4, 10: 5, 12: 5, 22: 6, 23: 6, 24: 7, 100: 13, 365: 23, 366: 23, 1000: 38,
		10000: 119, 99999: 373, 500000: 833, 999999: 1178, 1000000: 1178}
	for days, want := range cases {
		people, ok := impl.BirthdayLeast(days)
		wantInteger(t, people, ok, want, "BirthdayLeast", days)
	}
	for days := int64(1); days <= 1000; days++ {
		// By exact chances, one fewer are different with more than a half.
		people, ok := impl.BirthdayLeast(days)
		miss, before := big.NewRat(1, 1), new(big.Rat)
		for i := range people {
			before.Set(miss)
			miss.Mul(miss, big.NewRat(days-i, days))
		}
		half := big.NewRat(1, 2)
		wantEqual(t, ok && miss.Cmp(half) <= 0 && before.Cmp(half) > 0, true, "BirthdayLeast", days, people)
	}
	for _, days := range append([]int64{0, -365, 1000001, 1 << 40}, farNumbers...) {
		people, ok := impl.BirthdayLeast(days)
		wantNoInteger(t, people, ok, "BirthdayLeast", days)
	}
}

func TestMatchesAreChances(t *testing.T) {
	// These are computed by another program.
	cases := [][4]int64{{3, 0, 1, 3}, {1, 0, 0, 1}, {1, 1, 1, 1}, {2, 0, 1, 2}, {2, 1, 0, 1}, {2, 2, 1, 2}, {10, 0, 16481, 44800},
		{13, 2, 1468457, 7983360}, {20, 0, 4282366656425369, 11640679464960000}, {20, 1, 92079694567171, 250298560512000},
		{20, 10, 16481, 162570240000}, {20, 19, 0, 1}, {20, 20, 1, 2432902008176640000}}
	for _, c := range cases {
		over, under, ok := impl.MatchChance(c[0], c[1])
		wantFraction(t, over, under, ok, c[2], c[3], "MatchChance", c)
	}
	for n := int64(1); n <= 20; n++ {
		sum := new(big.Rat)
		for k := int64(0); k <= n; k++ {
			over, under, ok := impl.MatchChance(n, k)
			wantEqual(t, ok && isShare(over, under), true, "MatchChance is a chance", n, k, over, under)
			sum.Add(sum, big.NewRat(over, max(under, 1)))
		}
		wantEqual(t, sum.Cmp(big.NewRat(1, 1)), 0, "MatchChance adds up", n, sum)
	}
	without([]int64{9, 4}, [][]int64{{0, -9, 3, 21}, {-4, 10}}, func(a []int64) {
		over, under, ok := impl.MatchChance(a[0], a[1])
		wantNoFraction(t, over, under, ok, "MatchChance", a)
	})
	for _, a := range [][2]int64{{0, 0}, {21, 0}, {20, 21}, {1, 2}, {1, -1}, {52, 0}} {
		over, under, ok := impl.MatchChance(a[0], a[1])
		wantNoFraction(t, over, under, ok, "MatchChance", a)
	}
}
