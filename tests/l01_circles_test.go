package tests

import (
	"math"
	"slices"
	"testing"

	"loop.example/g01401/impl"
)

func TestSines(t *testing.T) {
	for _, s := range sines {
		wantNumber(t, impl.SineTurns(number(s[0])), s[1], "SineTurns", number(s[0]))
	}
}

func TestPhasors(t *testing.T) {
	for _, p := range phasors {
		wantComplex(t, impl.PhasorOf(p.turns), p.re, p.im, "PhasorOf", p.turns)
	}
	wantComplex(t, impl.PhasorOf(math.Copysign(0, -1)), oneBits, negZeroBits, "PhasorOf -0")
	for _, x := range []float64{math.NaN(), math.Inf(1), math.Inf(-1)} {
		wantComplex(t, impl.PhasorOf(x), nanBits, nanBits, "PhasorOf", x)
	}
}

func TestAngles(t *testing.T) {
	for _, a := range angles {
		y, x := number(a[0]), number(a[1])
		wantNumber(t, impl.AngleTurns(y, x), a[2], "AngleTurns", y, x)
		wantNumber(t, impl.AngleOf(complex(x, y)), a[2], "AngleOf", x, y)
	}
}

func TestAnglesOfPhasors(t *testing.T) {
	for n := -499; n <= 500; n++ {
		turns := float64(n) / 1000
		if got := impl.AngleOf(impl.PhasorOf(turns)); math.Abs(float64(got)-turns) > 1e-7 {
			t.Errorf("AngleOf PhasorOf %v: got %v", turns, got)
		}
		sine := float64(impl.SineTurns(float32(turns)))
		if math.Abs(sine-math.Sin(2*math.Pi*float64(float32(turns)))) > 1e-7 {
			t.Errorf("SineTurns %v: got %v", turns, sine)
		}
	}
}

func TestDecibels(t *testing.T) {
	for _, d := range slices.Concat(decibels, decibelSteps) {
		tenths, ok := impl.TenthsOf(number(d.power))
		wantEqual(t, ok, true, "TenthsOf succeeds", number(d.power))
		wantEqual(t, tenths, d.tenths, "TenthsOf", number(d.power))
	}
	for _, b := range []uint32{zeroBits, negZeroBits, 0x80000001, 0xbf800000, 0xff7fffff, infBits, negInfBits, nanBits, 0x7f800001} {
		tenths, ok := impl.TenthsOf(number(b))
		wantEqual(t, ok, false, "TenthsOf succeeds", number(b))
		wantEqual(t, tenths, 0, "TenthsOf", number(b))
	}
}

func TestLogarithms(t *testing.T) {
	for _, l := range logarithms {
		wantNumber(t, impl.LogNumber(number(l[0])), l[1], "LogNumber", number(l[0]))
	}
}

func TestExponentials(t *testing.T) {
	for _, e := range exponentials {
		wantNumber(t, impl.ExpNumber(number(e[0])), e[1], "ExpNumber", number(e[0]))
	}
}

func TestLogarithmsOfExponentials(t *testing.T) {
	for n := -850; n <= 880; n++ {
		x := float32(n) / 10
		got := impl.LogNumber(impl.ExpNumber(x))
		if math.Abs(float64(got-x)) > 1e-5 {
			t.Errorf("LogNumber ExpNumber %v: got %v", x, got)
		}
	}
}
