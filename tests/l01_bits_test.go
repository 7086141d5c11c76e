package tests

import (
	"math"
	"testing"

	"loop.example/g01401/impl"
)

func isNaNBits(b uint32) bool { return b&0x7f800000 == 0x7f800000 && b&0x007fffff != 0 }

func isFiniteBits(b uint32) bool { return b&0x7f800000 != 0x7f800000 }

func TestLimits(t *testing.T) {
	limits := []int64{impl.MaxNumbers, impl.MaxValue, impl.MaxItems, impl.CheckSize}
	for i, want := range []int64{256, 1000000000000000, 64, 65003} {
		wantEqual(t, limits[i], want, "limit", i)
	}
}

func TestBitsLeadBackAndForth(t *testing.T) {
	look := func(bits uint32) {
		x, ok := impl.FromBits(int64(bits))
		wantEqual(t, ok, true, "FromBits succeeds", bits)
		want := bits
		if isNaNBits(bits) {
			want = nanBits
		}
		wantEqual(t, oneNaN(x), want, "FromBits", bits)
		wantEqual(t, impl.BitsOf(number(bits)), int64(want), "BitsOf", bits)
		wantEqual(t, impl.IsFinite(number(bits)), isFiniteBits(bits), "IsFinite", bits)
	}
	strideBits(look)
	for _, b := range specialBits {
		look(b)
	}
	look(math.MaxUint32)
}

func TestFromBitsFailsOutside(t *testing.T) {
	for _, n := range []int64{-1, 4294967296, math.MinInt64, math.MaxInt64, 4294967296 + 0x3f800000} {
		x, ok := impl.FromBits(n)
		wantEqual(t, ok, false, "FromBits succeeds", n)
		wantNumber(t, x, zeroBits, "FromBits", n)
	}
}

func TestSameNumberTellsZerosAndNotNaNs(t *testing.T) {
	for i, a := range specialBits {
		for k, b := range specialBits {
			want := i == k || isNaNBits(a) && isNaNBits(b)
			wantEqual(t, impl.SameNumber(number(a), number(b)), want, "SameNumber", a, b)
			wantEqual(t, impl.SameComplex(cnumber(a, oneBits), cnumber(b, oneBits)), want, "SameComplex real", a, b)
			wantEqual(t, impl.SameComplex(cnumber(oneBits, a), cnumber(oneBits, b)), want, "SameComplex imag", a, b)
		}
	}
	wantEqual(t, impl.SameComplex(cnumber(nanBits, 0), cnumber(0xffc00001, 0)), true, "SameComplex of one not-a-number")
	wantEqual(t, impl.SameComplex(cnumber(nanBits, 0), cnumber(nanBits, negZeroBits)), false, "SameComplex of two zeros")
}

func TestIsFiniteComplexNeedsBothParts(t *testing.T) {
	for _, a := range specialBits {
		for _, b := range specialBits {
			want := isFiniteBits(a) && isFiniteBits(b)
			wantEqual(t, impl.IsFiniteComplex(cnumber(a, b)), want, "IsFiniteComplex", a, b)
		}
	}
}

// narrowings has 64-bit numbers and the bits of the nearest 32-bit ones.
var narrowings = []struct {
	x    float64
	want uint32
}{
	{0, zeroBits},
	{math.Copysign(0, -1), negZeroBits},
	{0.5, 0x3f000000},
	{0.1, 0x3dcccccd},
	{1 + 0x1p-24, oneBits},                   // a tie, to even
	{1 + 3*0x1p-24, 0x3f800002},              // a tie, to even
	{1 + 0x1p-24 + 0x1p-52, 0x3f800001},      // above a tie
	{-(1 + 0x1p-24), 0xbf800000},             // a tie, to even
	{0x1p-126, 0x00800000},                   // not subnormal
	{0x1p-126 - 0x1p-150, 0x00800000},        // a tie, to even, which is not subnormal
	{0x1p-149, leastBits},                    // the least one
	{0x1p-150, zeroBits},                     // a tie, to even
	{-0x1p-150, negZeroBits},                 // the sign is kept
	{0x1p-150 + 0x1p-190, leastBits},         // above a tie
	{3 * 0x1p-150, 0x00000002},               // a tie, to even
	{5e-324, zeroBits},                       // a subnormal 64-bit number
	{-5e-324, negZeroBits},                   //
	{math.MaxFloat32, mostBits},              //
	{0x1.fffffefffffffp127, mostBits},        // just below the tie
	{0x1.ffffffp127, infBits},                // a tie, to what would be 2^128
	{-0x1.ffffffp127, negInfBits},            //
	{math.MaxFloat64, infBits},               //
	{math.Inf(1), infBits},                   //
	{math.Inf(-1), negInfBits},               //
	{math.NaN(), nanBits},                    //
	{math.Copysign(math.NaN(), -1), nanBits}, //
}

func TestNarrowRoundsToNearestEven(t *testing.T) {
	for _, c := range narrowings {
		wantNumber(t, impl.NarrowNumber(c.x), c.want, "NarrowNumber", c.x)
		wantComplex(t, impl.NarrowComplex(complex(c.x, 0.5)), c.want, 0x3f000000, "NarrowComplex real", c.x)
		wantComplex(t, impl.NarrowComplex(complex(0.5, c.x)), 0x3f000000, c.want, "NarrowComplex imag", c.x)
	}
}

func TestNarrowKeepsNumbers(t *testing.T) {
	strideBits(func(bits uint32) {
		x := number(bits)
		wantNumber(t, impl.NarrowNumber(float64(x)), oneNaN(x), "NarrowNumber", bits)
	})
}

func TestSubnormalNumbersAreFlushed(t *testing.T) {
	look := func(bits uint32) {
		x := number(bits)
		subnormal := bits&0x7f800000 == 0 && bits&0x007fffff != 0
		want := oneNaN(x)
		if subnormal {
			want = bits & negZeroBits
		}
		wantEqual(t, impl.IsSubnormal(x), subnormal, "IsSubnormal", bits)
		wantNumber(t, impl.FlushNumber(x), want, "FlushNumber", bits)
	}
	strideBits(look)
	for _, b := range specialBits {
		look(b)
	}
}
