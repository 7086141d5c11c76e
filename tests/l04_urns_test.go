package tests

import (
	"math/big"
	"testing"

	"loop.example/g01401/impl"
)

// plainUrn returns how likely just k of draws balls are red, draw by draw, where add more of a kind are there behind each one that is drawn:
// -1 for balls that are not put back.
func plainUrn(red, blue, add, draws, k int64) *big.Rat {
	chance := new(big.Rat)
	if k < 0 || k > draws {
		return chance
	}
	if draws == 0 {
		return chance.SetInt64(1)
	}
	if red > 0 {
		next := plainUrn(red+add, blue, add, draws-1, k-1)
		chance.Add(chance, next.Mul(next, big.NewRat(red, red+blue)))
	}
	if blue > 0 {
		next := plainUrn(red, blue+add, add, draws-1, k)
		chance.Add(chance, next.Mul(next, big.NewRat(blue, red+blue)))
	}
	return chance
}

func TestUrnsAreDrawnBallByBall(t *testing.T) {
	for red := int64(0); red <= 5; red++ {
		for blue := int64(0); blue <= 5; blue++ {
			for draws := int64(0); draws <= 6 && red+blue > 0; draws++ {
				for k := int64(0); k <= draws; k++ {
					if draws <= red+blue {
						over, under, ok := impl.UrnChance(red, blue, draws, k)
						wantRat(t, over, under, ok, plainUrn(red, blue, -1, draws, k), "UrnChance", red, blue, draws, k)
					}
					over, under, ok := impl.UrnBack(red, blue, draws, k)
					wantRat(t, over, under, ok, plainUrn(red, blue, 0, draws, k), "UrnBack", red, blue, draws, k)
					for _, add := range []int64{0, 1, 2, 10} {
						over, under, ok = impl.UrnGrows(red, blue, add, draws, k)
						wantRat(t, over, under, ok, plainUrn(red, blue, add, draws, k), "UrnGrows", red, blue, add, draws, k)
					}
				}
			}
		}
	}
}

// wantChancesOfOne tells whether the chances of all numbers from 0 to draws add up to one.
func wantChancesOfOne(t *testing.T, draws int64, chance func(k int64) (int64, int64, bool), what string, args ...any) {
	t.Helper()
	sum := new(big.Rat)
	for k := int64(0); k <= draws; k++ {
		over, under, ok := chance(k)
		wantEqual(t, ok && isShare(over, under), true, what+" is a chance", args, draws, k, over, under)
		sum.Add(sum, big.NewRat(over, max(under, 1)))
	}
	wantEqual(t, sum.Cmp(big.NewRat(1, 1)), 0, what+" adds up", args, draws, sum)
}

func TestUrnsAddUp(t *testing.T) {
	for red := int64(0); red <= 40; red += 1 + red%4 {
		for blue := int64(0); red+blue <= 40; blue += 1 + blue%3 {
			if red+blue == 0 {
				continue
			}
			for draws := int64(0); draws <= red+blue; draws++ {
				wantChancesOfOne(t, draws, func(k int64) (int64, int64, bool) { return impl.UrnChance(red, blue, draws, k) }, "UrnChance", red, blue)
			}
			for draws := int64(0); draws <= 8; draws++ {
				wantChancesOfOne(t, draws, func(k int64) (int64, int64, bool) { return impl.UrnBack(red, blue, draws, k) }, "UrnBack", red, blue)
			}
			for draws := int64(0); draws <= 6; draws++ {
				for add := int64(0); add <= 10; add += 5 {
					wantChancesOfOne(t, draws, func(k int64) (int64, int64, bool) { return impl.UrnGrows(red, blue, add, draws, k) }, "UrnGrows", red, blue, add)
				}
			}
		}
	}
}

func TestUrnsAreTold(t *testing.T) {
	// These are computed by another program, draw by draw.
	for _, c := range [][6]int64{{2, 2, 2, 1, 2, 3}, {20, 20, 20, 10, 59676188, 240990435}, {17, 23, 11, 5, 12397, 45880}, {4, 36, 10, 4, 21, 9139},
		{26, 14, 13, 13, 115, 133052}, {39, 1, 20, 20, 1, 2}, {1, 39, 40, 1, 1, 1}, {1, 39, 40, 0, 0, 1}, {5, 5, 0, 0, 1, 1},
		{40, 0, 40, 40, 1, 1}, {40, 0, 5, 4, 0, 1}, {0, 40, 7, 0, 1, 1}, {0, 40, 7, 1, 0, 1}, {0, 40, 40, 40, 0, 1}, {1, 0, 1, 1, 1, 1}, {1, 0, 1, 0, 0, 1}} {
		over, under, ok := impl.UrnChance(c[0], c[1], c[2], c[3])
		wantFraction(t, over, under, ok, c[4], c[5], "UrnChance", c)
	}
	for _, c := range [][6]int64{{1, 2, 2, 1, 4, 9}, {20, 20, 8, 4, 35, 128}, {39, 1, 8, 8, 5352009260481, 6553600000000}, {39, 1, 8, 0, 1, 6553600000000},
		{1, 39, 8, 3, 631569393, 819200000000}, {13, 27, 7, 2, 50924270943, 163840000000}, {37, 3, 8, 7, 284795631399, 819200000000}, {1, 1, 8, 5, 7, 32},
		{0, 3, 8, 0, 1, 1}, {0, 3, 8, 1, 0, 1}, {3, 0, 8, 8, 1, 1}, {3, 0, 8, 7, 0, 1}, {3, 0, 0, 0, 1, 1}, {1, 0, 8, 8, 1, 1}, {0, 1, 8, 8, 0, 1}} {
		over, under, ok := impl.UrnBack(c[0], c[1], c[2], c[3])
		wantFraction(t, over, under, ok, c[4], c[5], "UrnBack", c)
	}
	for _, c := range [][7]int64{{1, 1, 1, 2, 2, 1, 3}, {1, 1, 1, 6, 3, 1, 7}, {20, 20, 10, 6, 3, 4, 21}, {39, 1, 10, 6, 0, 237677, 960000000},
		{39, 1, 10, 6, 6, 868237097, 960000000}, {7, 5, 0, 6, 2, 153125, 995328}, {3, 2, 7, 5, 4, 340, 2717}, {1, 39, 9, 6, 2, 34749, 1618519},
		{0, 40, 10, 6, 0, 1, 1}, {0, 40, 10, 6, 1, 0, 1}, {40, 0, 10, 6, 6, 1, 1}, {40, 0, 10, 6, 5, 0, 1}, {5, 5, 5, 0, 0, 1, 1}, {1, 0, 0, 6, 6, 1, 1}} {
		over, under, ok := impl.UrnGrows(c[0], c[1], c[2], c[3], c[4])
		wantFraction(t, over, under, ok, c[5], c[6], "UrnGrows", c)
	}
}

func TestUrnsFail(t *testing.T) {
	without([]int64{5, 4, 6, 3}, [][]int64{{-1, -4, 37, 40, 41}, {-1, -5, 36, 40, 41}, {-1, 2, 10}, {-1, 7}}, func(a []int64) {
		over, under, ok := impl.UrnChance(a[0], a[1], a[2], a[3])
		wantNoFraction(t, over, under, ok, "UrnChance", a)
	})
	without([]int64{5, 4, 6, 3}, [][]int64{{-1, -4, 37, 40, 41}, {-1, -5, 36, 40, 41}, {-1, 2, 9}, {-1, 7}}, func(a []int64) {
		over, under, ok := impl.UrnBack(a[0], a[1], a[2], a[3])
		wantNoFraction(t, over, under, ok, "UrnBack", a)
	})
	without([]int64{5, 4, 7, 5, 3}, [][]int64{{-1, -4, 37, 40, 41}, {-1, -5, 36, 40, 41}, {-1, 11}, {-1, 2, 7}, {-1, 6}}, func(a []int64) {
		over, under, ok := impl.UrnGrows(a[0], a[1], a[2], a[3], a[4])
		wantNoFraction(t, over, under, ok, "UrnGrows", a)
	})
	for _, a := range [][2]int64{{0, 0}, {41, 0}, {0, 41}, {21, 20}, {41, -1}, {-1, 41}, {-1, 1}, {1, -1}} {
		over, under, ok := impl.UrnChance(a[0], a[1], 0, 0)
		wantNoFraction(t, over, under, ok, "UrnChance", a)
		over, under, ok = impl.UrnBack(a[0], a[1], 0, 0)
		wantNoFraction(t, over, under, ok, "UrnBack", a)
		over, under, ok = impl.UrnGrows(a[0], a[1], 1, 0, 0)
		wantNoFraction(t, over, under, ok, "UrnGrows", a)
		over, under, ok = impl.UrnMean(a[0], a[1])
		wantNoFraction(t, over, under, ok, "UrnMean", a)
	}
	over, under, ok := impl.UrnChance(1, 1, 3, 0)
	wantNoFraction(t, over, under, ok, "UrnChance of more than all balls")
	over, under, ok = impl.UrnBack(1, 0, 8, 9)
	wantNoFraction(t, over, under, ok, "UrnBack of more than all draws")
}

func TestFirstRedBallsAreAwaited(t *testing.T) {
	for red := int64(1); red <= 40; red++ {
		for blue := int64(0); red+blue <= 40; blue++ {
			// A draw is needed as long as all ones before it were blue.
			mean := new(big.Rat)
			for draws := int64(0); draws <= blue; draws++ {
				mean.Add(mean, big.NewRat(binomial(red+blue-draws, red), binomial(red+blue, red)))
			}
			over, under, ok := impl.UrnMean(red, blue)
			wantRat(t, over, under, ok, mean, "UrnMean", red, blue)
		}
	}
	over, under, ok := impl.UrnMean(1, 2)
	wantFraction(t, over, under, ok, 2, 1, "UrnMean", 1, 2)
	for blue := int64(0); blue <= 41; blue++ {
		over, under, ok := impl.UrnMean(0, blue)
		wantNoFraction(t, over, under, ok, "UrnMean of no red ball", blue)
	}
	without([]int64{5, 4}, [][]int64{{0, -1, -4, 37, 40}, {-1, -5, 36, 40}}, func(a []int64) {
		over, under, ok := impl.UrnMean(a[0], a[1])
		wantNoFraction(t, over, under, ok, "UrnMean", a)
	})
}
