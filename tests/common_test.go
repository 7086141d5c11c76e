package tests

import (
	"math"
	"testing"

	"loop.example/g01401/impl"
)

const (
	zeroBits    = 0x00000000
	negZeroBits = 0x80000000
	leastBits   = 0x00000001 // the least number above 0
	oneBits     = 0x3f800000
	mostBits    = 0x7f7fffff // the greatest finite number
	infBits     = 0x7f800000
	negInfBits  = 0xff800000
	nanBits     = 0x7fc00000
)

// specialBits are the bits of numbers at which rules change, and of some ordinary ones.
var specialBits = []uint32{
	zeroBits, negZeroBits, leastBits, 0x80000001, 0x007fffff, 0x807fffff, 0x00800000, 0x80800000,
	0x3e800000, 0xbe800000, 0x3f000000, 0xbf000000, 0x3f400000, 0x3fc00000, oneBits, 0xbf800000,
	0x40490fdb, 0xc2c80000, 0x43480000, 0xc3480000, 0x43480001, 0xc3480001, 0x4b7fffff,
	0x597fffff, 0x59800000, 0xd9800000, mostBits, 0xff7fffff, infBits, negInfBits,
	nanBits, 0x7f800001, 0xffc00000, 0xffffffff,
}

func number(bits uint32) float32 { return math.Float32frombits(bits) }

// cnumber returns the complex number whose parts have the bits.
func cnumber(re, im uint32) complex64 { return complex(number(re), number(im)) }

func numbers(bits []uint32) []float32 {
	var list []float32
	for _, b := range bits {
		list = append(list, number(b))
	}
	return list
}

// oneNaN returns the bits of x, those of one not-a-number for all.
func oneNaN(x float32) uint32 {
	if x != x {
		return nanBits
	}
	return math.Float32bits(x)
}

func wantNumber(t *testing.T, got float32, want uint32, what string, args ...any) {
	t.Helper()
	if oneNaN(got) != want {
		t.Errorf("%s %v: got %08x (%v), want %08x (%v)", what, args, oneNaN(got), got, want, number(want))
	}
}

func wantComplex(t *testing.T, got complex64, re, im uint32, what string, args ...any) {
	t.Helper()
	if oneNaN(real(got)) != re || oneNaN(imag(got)) != im {
		t.Errorf("%s %v: got %08x %08x (%v), want %08x %08x (%v)", what, args,
			oneNaN(real(got)), oneNaN(imag(got)), got, re, im, cnumber(re, im))
	}
}

func wantEqual[T comparable](t *testing.T, got, want T, what string, args ...any) {
	t.Helper()
	if got != want {
		t.Errorf("%s %v: got %v, want %v", what, args, got, want)
	}
}

// strideBits calls look with bits spread over all 32-bit numbers.
func strideBits(look func(bits uint32)) {
	for n := int64(0); n <= math.MaxUint32; n += 65521 {
		look(uint32(n))
	}
}

// sameList tells lists of numbers apart by their bits.
func sameList(a, b []float32) bool {
	if len(a) != len(b) {
		return false
	}
	for i := range a {
		if !impl.SameNumber(a[i], b[i]) {
			return false
		}
	}
	return true
}
