package tests

import (
	"math"
	"testing"

	"loop.example/g01401/impl"
)

// The bits of these tables are computed by another program, which rounds each operation.

var gainCases = []struct {
	chance    uint32
	pot, call int64
	want      uint32
}{
	{0x3f333333, 33, 10, 0x41a0cccd},
	{0x3dcccccd, 1000000, 999999, 0xc9434ff1},
	{oneBits, 7, 9, 0x40e00000},
	{zeroBits, 7, 9, 0xc1100000},
	{0x3eaaa64c, 0, 17, 0xc13557a8},
	{0x3f666666, 12345, 0, 0x462d9a00},
	{0x3f000000, 100, 50, 0x41c80000},
	{0x3f000000, 0, 0, zeroBits},
	{0x3f000000, 1000000, 1000000, zeroBits},
	{negZeroBits, 3, 5, 0xc0a00000},
}

// badChances are the bits of numbers that are no chances.
var badChances = []uint32{0x80000001, 0xbf800000, 0x3f800001, 0x40000000, infBits, negInfBits, nanBits, 0xffc00000}

func TestCallsGain(t *testing.T) {
	for _, c := range gainCases {
		gain, ok := impl.CallGain(number(c.chance), c.pot, c.call)
		wantEqual(t, ok, true, "CallGain succeeds", c)
		wantNumber(t, gain, c.want, "CallGain", c)
	}
	for _, bits := range badChances {
		gain, ok := impl.CallGain(number(bits), 5, 5)
		wantEqual(t, !ok && gain == 0, true, "CallGain fails", number(bits), gain)
	}
	for _, b := range [][2]int64{{-1, 5}, {1000001, 5}, {5, -1}, {5, 1000001}, {math.MinInt64, 5}, {math.MaxInt64, 5}, {5, math.MinInt64}, {5, math.MaxInt64}} {
		gain, ok := impl.CallGain(0.5, b[0], b[1])
		wantEqual(t, !ok && gain == 0, true, "CallGain fails", b, gain)
	}
}

var shareCases = []struct{ chance, odds, want uint32 }{
	{0x3f19999a, oneBits, 0x3e4cccd0},
	{0x3f000000, 0x40400000, 0x3eaaaaab},
	{0x3f400000, oneBits, 0x3f000000},
	{0x3e99999a, 0x3fc00000, zeroBits}, // less than 0
	{0x3dcccccd, 0x3dcccccd, zeroBits},
	{0x3f000000, oneBits, zeroBits},
	{oneBits, 0x3ebd70a4, oneBits},
	{zeroBits, 0x40a00000, zeroBits},
	{0x3f333333, 0x7149f2ca, 0x3f333333},
	{0x3f0ccccd, 0x3f666666, 0x3d4cccc0},
	{oneBits, leastBits, zeroBits},
	{0x3f000000, leastBits, zeroBits}, // the negative infinity is less than 0, too
	{0x3f7fbe77, 0x7f61b1e6, 0x3f7fbe77},
	{oneBits, mostBits, oneBits},
}

// badOdds are the bits of numbers that are no odds, or lead to none that are finite.
var badOdds = []uint32{zeroBits, negZeroBits, 0x80000001, 0xbf800000, 0xff7fffff, negInfBits, infBits, nanBits}

func TestSharesGrow(t *testing.T) {
	for _, c := range shareCases {
		share, ok := impl.GrowthShare(number(c.chance), number(c.odds))
		wantEqual(t, ok, true, "GrowthShare succeeds", c)
		wantNumber(t, share, c.want, "GrowthShare", number(c.chance), number(c.odds))
	}
	for _, bits := range badChances {
		share, ok := impl.GrowthShare(number(bits), 2)
		wantEqual(t, !ok && share == 0, true, "GrowthShare fails", number(bits), share)
	}
	for _, bits := range badOdds {
		for _, chance := range []float32{0, 0.5, 1} {
			share, ok := impl.GrowthShare(chance, number(bits))
			wantEqual(t, !ok && share == 0, true, "GrowthShare fails", chance, number(bits), share)
		}
	}
}

var growthCases = []struct{ chance, odds, share, want uint32 }{
	{0x3f19999a, oneBits, 0x3e4ccccd, 0x3ca4f354},
	{0x3f000000, 0x40400000, 0x3ea8f5c3, 0x3e1347c9},
	{0x3e99999a, 0x3fc00000, 0x3f7fbe77, 0xc091f181},
	{0x3dcccccd, 0x3dcccccd, zeroBits, zeroBits},
	{oneBits, 0x3ebd70a4, 0x3f000000, 0x3e2dd10a},
	{zeroBits, 0x40a00000, 0x3f000000, 0xbf317218},
	{0x3f333333, 0x7149f2ca, 0x3e800000, 0x423d30b8},
	{0x3f0ccccd, 0x3f666666, 0x3d4ccccd, 0x3a93c130},
	{0x3e4ccccd, 0x40f00000, 0x3f7fffff, 0xc14e162c},
	{0x3f000000, oneBits, zeroBits, zeroBits},
	{negZeroBits, oneBits, negZeroBits, zeroBits},
}

// badShares are the bits of numbers that are no shares.
var badShares = []uint32{oneBits, 0x3f800001, 0x40000000, 0x80000001, 0xbf000000, infBits, negInfBits, nanBits}

func TestGrowthIsTold(t *testing.T) {
	for _, c := range growthCases {
		growth, ok := impl.GrowthAt(number(c.chance), number(c.odds), number(c.share))
		wantEqual(t, ok, true, "GrowthAt succeeds", c)
		wantNumber(t, growth, c.want, "GrowthAt", number(c.chance), number(c.odds), number(c.share))
	}
	for _, bits := range badChances {
		growth, ok := impl.GrowthAt(number(bits), 2, 0.5)
		wantEqual(t, !ok && growth == 0, true, "GrowthAt fails", number(bits), growth)
	}
	for _, bits := range badShares {
		growth, ok := impl.GrowthAt(0.5, 2, number(bits))
		wantEqual(t, !ok && growth == 0, true, "GrowthAt fails", number(bits), growth)
	}
	for _, bits := range badOdds {
		for _, share := range []float32{0, 0.5} {
			growth, ok := impl.GrowthAt(0.5, number(bits), share)
			wantEqual(t, !ok && growth == 0, true, "GrowthAt fails", number(bits), share, growth)
		}
	}
}
