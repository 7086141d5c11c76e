package tests

import (
	"math/rand"
	"testing"

	"loop.example/g01401/impl"
)

// The bits of these tables are computed by another program, which rounds each operation.

var purseGrowths = []struct{ chance, odds, share, want uint32 }{
	{0x3f19999a, oneBits, 0x3e4ccccd, 0x3ca4f354},
	{0x3e99999a, 0x40f00000, 0x3dcccccd, 0x3dc0c877},
	{0x3f666666, 0x3e800000, 0x3f7fffff, 0xbfbb3a8e},
	{oneBits, 0x40533333, 0x3f333333, 0x3f993599},
	{zeroBits, 0x40000000, 0x3f000000, 0xbf317218},
	{0x3f000000, oneBits, zeroBits, zeroBits},
	{0x3dfbe76d, 0x7149f2ca, 0x3ee978d5, 0x40fbb683},
	{0x3f451eb8, 0x0da24260, 0x3a83126f, 0xb9714a42},
	{0x3f000000, mostBits, 0x3f666666, 0x422ca13a},
	{0x3f7fbe77, 0x3c23d70a, 0x3e99999a, 0x3b2cbe75},
	{0x3f000000, oneBits, 0x3e800000, 0xbd042cc8},
	{oneBits, leastBits, 0x3f000000, zeroBits},
	{zeroBits, leastBits, zeroBits, zeroBits},
}

func TestPursesGrow(t *testing.T) {
	for _, c := range purseGrowths {
		growth, ok := impl.GrowthOf(number(c.chance), number(c.odds), number(c.share))
		wantEqual(t, ok, true, "GrowthOf succeeds", c)
		wantNumber(t, growth, c.want, "GrowthOf", number(c.chance), number(c.odds), number(c.share))
	}
	for _, c := range growthCases {
		growth, ok := impl.GrowthOf(number(c.chance), number(c.odds), number(c.share))
		wantEqual(t, ok, true, "GrowthOf succeeds", c)
		wantNumber(t, growth, c.want, "GrowthOf", number(c.chance), number(c.odds), number(c.share))
	}
	for _, bits := range badChances {
		growth, ok := impl.GrowthOf(number(bits), 2, 0.5)
		wantEqual(t, !ok && growth == 0, true, "GrowthOf fails", number(bits), growth)
	}
	for _, bits := range badShares {
		growth, ok := impl.GrowthOf(0.5, 2, number(bits))
		wantEqual(t, !ok && growth == 0, true, "GrowthOf fails", number(bits), growth)
	}
	for _, bits := range badOdds {
		for _, share := range []float32{0, 0.5} {
			for _, chance := range []float32{0, 0.5, 1} {
				growth, ok := impl.GrowthOf(chance, number(bits), share)
				wantEqual(t, !ok && growth == 0, true, "GrowthOf fails", chance, number(bits), share, growth)
			}
		}
	}
}

var bestShares = []struct{ chance, odds, want uint32 }{
	{0x3f400000, oneBits, 0x3f000000},
	{0x3e800000, oneBits, zeroBits}, // less than 0
	{0x3e99999a, 0x40000000, zeroBits},
	{0x3f000000, oneBits, zeroBits},
	{0x3f19999a, oneBits, 0x3e4cccd0},
	{0x3e99999a, 0x40f00000, 0x3e53a06d},
	{0x3f666666, 0x3e800000, 0x3efffffc},
	{0x3dcccccd, 0x41100000, 0x31e38e39},
	{0x3dcccccd, 0x41200000, 0x3c23d70d},
	{0x3f333333, 0x3f000000, 0x3dccccc8},
	{0x3eaaaaab, 0x40000000, 0x33000000},
	{0x3f2aaaab, 0x3f000000, 0x33800000},
	{0x3f0ccccd, 0x3f666666, 0x3d4cccd2},
	{0x3c23d70a, 0x42c60000, zeroBits},
	{0x3c23d70a, 0x42c63333, 0x37294897},
	{0x3ef029d1, 0x3f9dce7e, 0x3d1d5eee},
	{0x3f1e115e, 0x3f222cce, 0x3c5e9535},
	{0x3e51b1b9, 0x40968e61, 0x3d127836},
	{0x3e3942f5, 0x4098d42b, 0x3c1a4812},
	{0x3ef5450d, 0x3fba4125, 0x3df7db52},
	{0x3dfbe76d, 0x7149f2ca, 0x3dfbe76d},
	{0x3f451eb8, 0x0da24260, zeroBits},
	{oneBits, 0x40533333, oneBits},
	{oneBits, mostBits, oneBits},
	{oneBits, leastBits, oneBits},
	{0x3f000000, mostBits, 0x3f000000},
	{0x3f000000, leastBits, zeroBits}, // the negative infinity is less than 0, too
	{zeroBits, 0x40000000, zeroBits},
	{negZeroBits, 0x40000000, zeroBits},
	{0x003e8e6c, 0x7f02f436, negZeroBits}, // a zero is not less than 0
}

func TestSharesAreBest(t *testing.T) {
	for _, c := range bestShares {
		share, ok := impl.BestShare(number(c.chance), number(c.odds))
		wantEqual(t, ok, true, "BestShare succeeds", c)
		wantNumber(t, share, c.want, "BestShare", number(c.chance), number(c.odds))
	}
	for _, bits := range badChances {
		share, ok := impl.BestShare(number(bits), 2)
		wantEqual(t, !ok && share == 0, true, "BestShare fails", number(bits), share)
	}
	for _, bits := range badOdds {
		for _, chance := range []float32{0, 0.5, 1} {
			share, ok := impl.BestShare(chance, number(bits))
			wantEqual(t, !ok && share == 0, true, "BestShare fails", chance, number(bits), share)
		}
	}
	draws := rand.New(rand.NewSource(4))
	for range 2000 {
		chance, odds := draws.Float32(), 0.01+20*draws.Float32()
		share, ok := impl.BestShare(chance, odds)
		wantEqual(t, ok && share >= 0 && share < 1, true, "BestShare is a share", chance, odds, share)
		best, one := impl.GrowthOf(chance, odds, share)
		for _, other := range []float32{0, 0.9 * share, share + 0.1*(1-share), 0.5} {
			growth, two := impl.GrowthOf(chance, odds, other)
			wantEqual(t, one && two && growth <= best+1e-4, true, "BestShare grows most", chance, odds, share, other, growth, best)
		}
	}
}
