package tests

import (
	"math"
	"testing"

	"loop.example/g01401/impl"
)

func TestProductsOfSmallIntegersAreExact(t *testing.T) {
	const most = 6
	for a := -most; a <= most; a++ {
		for b := -most; b <= most; b++ {
			for c := -most; c <= most; c++ {
				for d := -most; d <= most; d++ {
					x := complex(float32(a), float32(b))
					y := complex(float32(c), float32(d))
					want := complex(float32(a*c-b*d), float32(a*d+b*c))
					wantEqual(t, impl.MulComplex(x, y), want, "MulComplex", x, y)
				}
			}
		}
	}
	large := complex(float32(4095), float32(-4094))
	wantEqual(t, impl.MulComplex(large, large), complex(4095*4095-4094*4094, -2*4095*4094), "MulComplex", large, large)
}

// products has four parts a, b, c and d, and the product of a + b i and c + d i.
var products = [][6]uint32{
	{oneBits, 0x40000000, 0x40400000, 0xbf800000, 0x40a00000, 0x40a00000},
	// (1 + 2^-12)^2 - (1 + 2^-11) is 2^-24: only 64-bit products have it
	{0x3f800800, oneBits, 0x3f800800, 0x3f801000, 0x33800000, 0x40001000},
	// no product overflows: the first part is 0, not a not-a-number
	{mostBits, mostBits, mostBits, mostBits, zeroBits, infBits},
	{mostBits, zeroBits, 0x40000000, zeroBits, infBits, zeroBits},
	{infBits, zeroBits, oneBits, zeroBits, infBits, nanBits},
	{infBits, infBits, oneBits, oneBits, nanBits, infBits},
	{nanBits, oneBits, oneBits, oneBits, nanBits, nanBits},
	// zeros with signs: -0 - 0 and -0 + 0
	{negZeroBits, zeroBits, oneBits, zeroBits, negZeroBits, zeroBits},
	{negZeroBits, negZeroBits, oneBits, zeroBits, zeroBits, negZeroBits},
	// subnormal results, and ones too small for any
	{leastBits, zeroBits, 0x3f000000, 0x3fc00000, zeroBits, 0x00000002},
	{leastBits, leastBits, leastBits, leastBits, zeroBits, zeroBits},
}

func TestMulComplexIsNarrowedInTheEnd(t *testing.T) {
	for _, p := range products {
		x, y := cnumber(p[0], p[1]), cnumber(p[2], p[3])
		wantComplex(t, impl.MulComplex(x, y), p[4], p[5], "MulComplex", x, y)
	}
}

func TestScaleComplexScalesBothParts(t *testing.T) {
	wantComplex(t, impl.ScaleComplex(complex(1, 2), 0.5), 0x3f000000, oneBits, "ScaleComplex")
	wantComplex(t, impl.ScaleComplex(complex(1, 2), number(negZeroBits)), negZeroBits, negZeroBits, "ScaleComplex by -0")
	wantComplex(t, impl.ScaleComplex(cnumber(zeroBits, oneBits), number(infBits)), nanBits, infBits, "ScaleComplex by infinity")
	wantComplex(t, impl.ScaleComplex(cnumber(mostBits, leastBits), 2), infBits, 0x00000002, "ScaleComplex by 2")
	wantComplex(t, impl.ScaleComplex(cnumber(leastBits, 0x00000003), 0.5), zeroBits, 0x00000002, "ScaleComplex to even")
	wantComplex(t, impl.ScaleComplex(cnumber(0x3f800800, 0xbf800800), number(0x3f800800)), 0x3f801000, 0xbf801000, "ScaleComplex rounds")
}

func TestConjugateTurnsTheSign(t *testing.T) {
	for _, b := range specialBits {
		want := b ^ negZeroBits
		if isNaNBits(b) {
			want = nanBits
		}
		wantComplex(t, impl.ConjugateOf(cnumber(b, b)), oneNaN(number(b)), want, "ConjugateOf", b)
	}
}

// powers has two parts, the power, and its root.
var powers = [][4]uint32{
	{0x40400000, 0x40800000, 0x41c80000, 0x40a00000},
	{zeroBits, negZeroBits, zeroBits, zeroBits},
	// rounded once: products of 32-bit numbers would differ in the last bit
	{0x3f80bcd3, 0xc05e7300, 0x41517aff, 0x40679336},
	{0x406e536a, 0xbf02bd91, 0x41620b86, 0x40708e83},
	// the root is that of the 64-bit power
	{mostBits, zeroBits, infBits, mostBits},
	{leastBits, zeroBits, zeroBits, leastBits},
	{mostBits, mostBits, infBits, infBits},
	{negInfBits, oneBits, infBits, infBits},
	{infBits, nanBits, nanBits, nanBits},
	{nanBits, zeroBits, nanBits, nanBits},
}

func TestPowerAndItsRoot(t *testing.T) {
	for _, p := range powers {
		x := cnumber(p[0], p[1])
		wantNumber(t, impl.PowerOf(x), p[2], "PowerOf", x)
		wantNumber(t, impl.LongOf(x), p[3], "LongOf", x)
	}
}

// quotients has four parts a, b, c and d, and the quotient of a + b i and c + d i.
var quotients = [][6]uint32{
	{zeroBits, 0x40800000, 0x40000000, zeroBits, zeroBits, 0x40000000},
	{0x40a00000, 0x40a00000, 0x40400000, 0xbf800000, oneBits, 0x40000000},
	// narrowed in the end, and not between
	{0x3d319d64, 0x407f3c91, 0xbfc2e5da, 0xc058974c, 0xbf7c1dfd, 0xbedc4e30},
	{0xbfbea336, 0x406ad569, 0x404b16f9, 0xbf7a49a3, 0xbf4107bc, 0x3f6c8a9c},
	{mostBits, mostBits, mostBits, mostBits, oneBits, zeroBits},
	{leastBits, leastBits, leastBits, leastBits, oneBits, zeroBits},
	// the products with a zero are zeros, which are divided by zero
	{oneBits, zeroBits, zeroBits, zeroBits, nanBits, nanBits},
	{mostBits, 0xbf800000, negZeroBits, zeroBits, nanBits, nanBits},
	{zeroBits, zeroBits, zeroBits, zeroBits, nanBits, nanBits},
	{infBits, zeroBits, zeroBits, zeroBits, nanBits, nanBits},
	{oneBits, zeroBits, infBits, zeroBits, nanBits, nanBits},
	{infBits, oneBits, oneBits, oneBits, infBits, negInfBits},
	{zeroBits, zeroBits, oneBits, zeroBits, zeroBits, zeroBits},
	{negZeroBits, negZeroBits, oneBits, zeroBits, negZeroBits, zeroBits},
	{nanBits, zeroBits, oneBits, zeroBits, nanBits, nanBits},
}

func TestQuotients(t *testing.T) {
	for _, q := range quotients {
		x, y := cnumber(q[0], q[1]), cnumber(q[2], q[3])
		wantComplex(t, impl.QuotientOf(x, y), q[4], q[5], "QuotientOf", x, y)
	}
}

func TestRoots(t *testing.T) {
	roots := [][2]uint32{
		{0x41100000, 0x40400000}, {0x40000000, 0x3fb504f3}, {0x40400000, 0x3fddb3d7},
		{leastBits, 0x1a3504f3}, {0x7f7fc99e, 0x5f7fe4ce}, {mostBits, 0x5f7fffff},
		{zeroBits, zeroBits}, {negZeroBits, negZeroBits}, {infBits, infBits},
		{0x80000001, nanBits}, {0xbf800000, nanBits}, {negInfBits, nanBits}, {0xffc00001, nanBits},
	}
	for _, r := range roots {
		wantNumber(t, impl.RootNumber(number(r[0])), r[1], "RootNumber", number(r[0]))
	}
	for n := range 4096 {
		wantNumber(t, impl.RootNumber(float32(n*n)), math.Float32bits(float32(n)), "RootNumber", n*n)
	}
}
