package tests

import (
	"testing"

	"loop.example/g01401/impl"
)

const wide = 16777216 // from here on, 32-bit numbers have no odd ones

func TestSumNumbersGoesFromLeftToRight(t *testing.T) {
	cases := []struct {
		list []float32
		want uint32
	}{
		{nil, zeroBits},
		{[]float32{}, zeroBits},
		{[]float32{1, 2, 3.5}, 0x40d00000},
		{[]float32{wide, 1, 1}, 0x4b800000},
		{[]float32{1, 1, wide}, 0x4b800001},
		{numbers([]uint32{negZeroBits}), zeroBits},
		{numbers([]uint32{mostBits, mostBits, 0xff7fffff}), infBits},
		{numbers([]uint32{infBits, negInfBits}), nanBits},
		{numbers([]uint32{oneBits, 0x7f800001}), nanBits},
		{numbers([]uint32{leastBits, leastBits}), 0x00000002},
	}
	for _, c := range cases {
		sum, ok := impl.SumNumbers(c.list)
		wantEqual(t, ok, true, "SumNumbers succeeds", c.list)
		wantNumber(t, sum, c.want, "SumNumbers", c.list)
	}
}

func TestDotNumbersRoundsProducts(t *testing.T) {
	cases := []struct {
		a, b []float32
		want uint32
	}{
		{nil, []float32{}, zeroBits},
		{[]float32{1, 2}, []float32{3, 4}, 0x41300000},
		// the second product is rounded to 1 + 2^-11 before it is added
		{numbers([]uint32{oneBits, 0x3f800800}), numbers([]uint32{0xbf801000, 0x3f800800}), zeroBits},
		{[]float32{wide, 1, 1}, []float32{1, 1, 1}, 0x4b800000},
		{numbers([]uint32{mostBits, mostBits}), []float32{2, -2}, nanBits},
		{numbers([]uint32{negZeroBits}), []float32{1}, zeroBits},
		{numbers([]uint32{infBits}), []float32{0}, nanBits},
	}
	for _, c := range cases {
		sum, ok := impl.DotNumbers(c.a, c.b)
		wantEqual(t, ok, true, "DotNumbers succeeds", c.a, c.b)
		wantNumber(t, sum, c.want, "DotNumbers", c.a, c.b)
	}
}

func TestSumComplexAddsBothParts(t *testing.T) {
	cases := []struct {
		list   []complex64
		re, im uint32
	}{
		{nil, zeroBits, zeroBits},
		{[]complex64{1, complex(2, 3)}, 0x40400000, 0x40400000},
		{[]complex64{complex(wide, 1), complex(1, 1), complex(1, wide)}, 0x4b800000, 0x4b800001},
		{[]complex64{cnumber(negZeroBits, negZeroBits)}, zeroBits, zeroBits},
		{[]complex64{cnumber(infBits, oneBits), cnumber(negInfBits, oneBits)}, nanBits, 0x40000000},
	}
	for _, c := range cases {
		sum, ok := impl.SumComplex(c.list)
		wantEqual(t, ok, true, "SumComplex succeeds", c.list)
		wantComplex(t, sum, c.re, c.im, "SumComplex", c.list)
	}
}

func TestDotComplexAddsNarrowedProducts(t *testing.T) {
	rounded := []complex64{complex(1, 0), cnumber(0x3f800800, zeroBits)}
	other := []complex64{cnumber(0xbf801000, zeroBits), cnumber(0x3f800800, zeroBits)}
	cases := []struct {
		a, b           []complex64
		re, im         uint32 // of DotComplex
		conjRe, conjIm uint32 // of DotConjugate
	}{
		{nil, nil, zeroBits, zeroBits, zeroBits, zeroBits},
		{[]complex64{complex(0, 1)}, []complex64{complex(0, 1)}, 0xbf800000, zeroBits, oneBits, zeroBits},
		{[]complex64{complex(1, 2), 3}, []complex64{complex(3, -1), complex(0, 1)}, 0x40a00000, 0x41000000, oneBits, 0xc0800000},
		{rounded, other, zeroBits, zeroBits, zeroBits, zeroBits},
		{[]complex64{wide, 1, 1}, []complex64{1, 1, 1}, 0x4b800000, zeroBits, 0x4b800000, zeroBits},
		{[]complex64{cnumber(infBits, zeroBits)}, []complex64{1}, infBits, nanBits, infBits, nanBits},
	}
	for _, c := range cases {
		sum, ok := impl.DotComplex(c.a, c.b)
		wantEqual(t, ok, true, "DotComplex succeeds", c.a, c.b)
		wantComplex(t, sum, c.re, c.im, "DotComplex", c.a, c.b)
		sum, ok = impl.DotConjugate(c.a, c.b)
		wantEqual(t, ok, true, "DotConjugate succeeds", c.a, c.b)
		wantComplex(t, sum, c.conjRe, c.conjIm, "DotConjugate", c.a, c.b)
	}
}

func TestPowersOfNarrowsInTheEnd(t *testing.T) {
	cases := []struct {
		list []complex64
		want uint32
	}{
		{nil, zeroBits},
		{[]complex64{complex(3, 4), 1}, 0x41d00000},
		{[]complex64{4096, 1, complex(0, 1)}, 0x4b800001},
		{[]complex64{4097, 1}, 0x4b801001}, // 4097 * 4097 is no 32-bit number
		{[]complex64{cnumber(mostBits, zeroBits)}, infBits},
		{[]complex64{cnumber(infBits, zeroBits), cnumber(negInfBits, zeroBits)}, infBits},
		{[]complex64{cnumber(infBits, zeroBits), cnumber(zeroBits, nanBits)}, nanBits},
	}
	for _, c := range cases {
		sum, ok := impl.PowersOf(c.list)
		wantEqual(t, ok, true, "PowersOf succeeds", c.list)
		wantNumber(t, sum, c.want, "PowersOf", c.list)
	}
}

func ones[T float32 | complex64](n int) []T {
	list := make([]T, n)
	for i := range list {
		list[i] = 1
	}
	return list
}

func TestSumsReachTheLimit(t *testing.T) {
	for _, n := range []int{impl.MaxNumbers, impl.MaxNumbers + 1, 1000} {
		fits := n <= impl.MaxNumbers
		want := float32(0)
		if fits {
			want = float32(n)
		}
		reals, parts := ones[float32](n), ones[complex64](n)
		sum, ok := impl.SumNumbers(reals)
		wantEqual(t, sum == want && ok == fits, true, "SumNumbers", n, sum, ok)
		sum, ok = impl.DotNumbers(reals, reals)
		wantEqual(t, sum == want && ok == fits, true, "DotNumbers", n, sum, ok)
		sum, ok = impl.PowersOf(parts)
		wantEqual(t, sum == want && ok == fits, true, "PowersOf", n, sum, ok)
		total, ok := impl.SumComplex(parts)
		wantEqual(t, total == complex(want, 0) && ok == fits, true, "SumComplex", n, total, ok)
		total, ok = impl.DotComplex(parts, parts)
		wantEqual(t, total == complex(want, 0) && ok == fits, true, "DotComplex", n, total, ok)
		total, ok = impl.DotConjugate(parts, parts)
		wantEqual(t, total == complex(want, 0) && ok == fits, true, "DotConjugate", n, total, ok)
	}
}

func TestDotsNeedTheSameLength(t *testing.T) {
	for _, n := range [][2]int{{0, 1}, {1, 0}, {2, 3}, {3, 2}, {256, 257}, {257, 256}} {
		sum, ok := impl.DotNumbers(ones[float32](n[0]), ones[float32](n[1]))
		wantEqual(t, sum == 0 && !ok, true, "DotNumbers fails", n)
		total, ok := impl.DotComplex(ones[complex64](n[0]), ones[complex64](n[1]))
		wantEqual(t, total == 0 && !ok, true, "DotComplex fails", n)
		total, ok = impl.DotConjugate(ones[complex64](n[0]), ones[complex64](n[1]))
		wantEqual(t, total == 0 && !ok, true, "DotConjugate fails", n)
	}
}
