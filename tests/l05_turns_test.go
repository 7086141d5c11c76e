package tests

import (
	"math"
	"math/rand"
	"slices"
	"testing"

	"loop.example/g01401/impl"
)

// The bits of these tables are computed by another program, which rounds each operation.

var powerSums = []struct {
	faces                  []int64
	re, im, wantRe, wantIm uint32
}{
	{[]int64{1, 2}, 0x3f000000, 0xbe800000, 0x3f300000, 0xbf000000},
	{[]int64{1, 2}, 0xbfc00000, 0x3f400000, 0x3e400000, 0xbfc00000},
	{[]int64{1, 2}, 0x00000000, 0x3f800000, 0xbf800000, 0x3f800000},
	{[]int64{1, 2}, 0x80000000, 0x80000000, 0x00000000, 0x00000000},
	{[]int64{1, 2}, 0x0da24260, 0x1ebce508, 0x0da24260, 0x1ebce508},
	{[]int64{1, 2}, 0x3f8ccccd, 0x3fa66666, 0x3f1eb856, 0x40851eb8},
	{[]int64{1, 2}, 0x477fe000, 0xc0400000, 0x4f7fc104, 0xc8bfe860},
	{[]int64{1, 2}, 0x3dcccccd, 0x3e4ccccd, 0x3d8f5c29, 0x3e75c290},
	{[]int64{0, 0, 20}, 0x3f000000, 0xbe800000, 0x3fffffb6, 0xb5b44bc0},
	{[]int64{0, 0, 20}, 0xbfc00000, 0x3f400000, 0xc6ef253b, 0xc5925e9f},
	{[]int64{0, 0, 20}, 0x00000000, 0x3f800000, 0x40400000, 0x00000000},
	{[]int64{0, 0, 20}, 0x80000000, 0x80000000, 0x40000000, 0x00000000},
	{[]int64{0, 0, 20}, 0x0da24260, 0x1ebce508, 0x40000000, 0x00000000},
	{[]int64{0, 0, 20}, 0x3f8ccccd, 0x3fa66666, 0x4571c35e, 0xc723a4b0},
	{[]int64{0, 0, 20}, 0x3dcccccd, 0x3e4ccccd, 0x40000000, 0xa88508eb},
	{[]int64{1, 2, 3, 4, 5, 6}, 0x3f000000, 0xbe800000, 0x3f203000, 0xbf510000},
	{[]int64{1, 2, 3, 4, 5, 6}, 0xbfc00000, 0x3f400000, 0xc16ad500, 0xc0238000},
	{[]int64{1, 2, 3, 4, 5, 6}, 0x00000000, 0x3f800000, 0xbf800000, 0x3f800000},
	{[]int64{1, 2, 3, 4, 5, 6}, 0x80000000, 0x80000000, 0x00000000, 0x00000000},
	{[]int64{1, 2, 3, 4, 5, 6}, 0x0da24260, 0x1ebce508, 0x0da24260, 0x1ebce508},
	{[]int64{1, 2, 3, 4, 5, 6}, 0x3f8ccccd, 0x3fa66666, 0xc0a29fe0, 0xc1f6ad24},
	{[]int64{1, 2, 3, 4, 5, 6}, 0x477fe000, 0xc0400000, 0x6f7f413b, 0xe98fa68e},
	{[]int64{1, 2, 3, 4, 5, 6}, 0x3dcccccd, 0x3e4ccccd, 0x3d70f495, 0x3e70e90d},
	{[]int64{0, 1, 1, 2, 3, 5, 8, 13, 20, 20, 20, 20}, 0x3f000000, 0xbe800000, 0x400b23ed, 0xbf74e7ba},
	{[]int64{0, 1, 1, 2, 3, 5, 8, 13, 20, 20, 20, 20}, 0xbfc00000, 0x3f400000, 0xc7f0d134, 0xc693a416},
	{[]int64{0, 1, 1, 2, 3, 5, 8, 13, 20, 20, 20, 20}, 0x00000000, 0x3f800000, 0x40a00000, 0x40400000},
	{[]int64{0, 1, 1, 2, 3, 5, 8, 13, 20, 20, 20, 20}, 0x80000000, 0x80000000, 0x3f800000, 0x00000000},
	{[]int64{0, 1, 1, 2, 3, 5, 8, 13, 20, 20, 20, 20}, 0x0da24260, 0x1ebce508, 0x3f800000, 0x1f3ce508},
	{[]int64{0, 1, 1, 2, 3, 5, 8, 13, 20, 20, 20, 20}, 0x3f8ccccd, 0x3fa66666, 0x467702e2, 0xc8248d62},
	{[]int64{0, 1, 1, 2, 3, 5, 8, 13, 20, 20, 20, 20}, 0x3dcccccd, 0x3e4ccccd, 0x3f946760, 0x3ee0102b},
	{[]int64{20}, 0x3f000000, 0xbe800000, 0xb7134c27, 0xb5b44bc0},
	{[]int64{20}, 0xbfc00000, 0x3f400000, 0xc6ef293b, 0xc5925e9f},
	{[]int64{20}, 0x00000000, 0x3f800000, 0x3f800000, 0x00000000},
	{[]int64{20}, 0x80000000, 0x80000000, 0x00000000, 0x00000000},
	{[]int64{20}, 0x0da24260, 0x1ebce508, 0x00000000, 0x00000000},
	{[]int64{20}, 0x3f8ccccd, 0x3fa66666, 0x4571a35e, 0xc723a4b0},
	{[]int64{20}, 0x3dcccccd, 0x3e4ccccd, 0xa9d95f6f, 0xa88508eb},
	{[]int64{2, 2, 7}, 0x3f000000, 0xbe800000, 0x3eb75000, 0xbeff1800},
	{[]int64{2, 2, 7}, 0xbfc00000, 0x3f400000, 0x4221ef20, 0xc105efc0},
	{[]int64{2, 2, 7}, 0x00000000, 0x3f800000, 0xc0000000, 0xbf800000},
	{[]int64{2, 2, 7}, 0x80000000, 0x80000000, 0x00000000, 0x00000000},
	{[]int64{2, 2, 7}, 0x0da24260, 0x1ebce508, 0x8008b614, 0x00000000},
	{[]int64{2, 2, 7}, 0x3f8ccccd, 0x3fa66666, 0x421edde7, 0xc02ae27e},
	{[]int64{2, 2, 7}, 0x477fe000, 0xc0400000, 0x777f2054, 0xf1a78227},
	{[]int64{2, 2, 7}, 0x3dcccccd, 0x3e4ccccd, 0xbd75bf86, 0x3da3e59e},
	{[]int64{1}, 0x7f7fffff, 0xff7fffff, 0x7f7fffff, 0xff7fffff},
	{[]int64{1, 1}, 0x7effc99e, 0x00000000, 0x7f7fc99e, 0x00000000},
	{[]int64{3}, 0x54c8d102, 0x00000000, 0x7f77248a, 0x00000000},
	{[]int64{0, 2}, 0xdf0ac723, 0x501502f9, 0x7e967699, 0xf0218f08},
	{[]int64{4}, 0x2b8cbccc, 0x2b8cbccc, 0x00000000, 0x00000000},
	{[]int64{2}, 0x19416d9a, 0x9a111234, 0x80000001, 0x00000000},
	{[]int64{12, 13, 14}, 0xbf3504f3, 0x3f3504f3, 0xbe95f618, 0x3e95f618},
	{[]int64{5, 6}, 0x80000000, 0x40000000, 0xc2800000, 0x42000000},
	{[]int64{3, 3, 3}, 0x40000000, 0x80000000, 0x41c00000, 0x00000000},
	{[]int64{1}, 0x80000000, 0x00000000, 0x00000000, 0x00000000},
	{[]int64{1}, 0x80000000, 0x40400000, 0x00000000, 0x40400000},
	{[]int64{1}, 0x80000000, 0xc0400000, 0x00000000, 0xc0400000},
	{[]int64{1}, 0x40400000, 0x80000000, 0x40400000, 0x00000000},
	{[]int64{1}, 0xc0400000, 0x80000000, 0xc0400000, 0x00000000},
	{[]int64{1, 1}, 0x80000000, 0xbf800000, 0x00000000, 0xc0000000},
	{[]int64{2}, 0x80000000, 0xbf800000, 0xbf800000, 0x00000000},
	{[]int64{0, 1}, 0xbf800000, 0xbf800000, 0x00000000, 0xbf800000},
}

func TestPowersOfFacesAreSummed(t *testing.T) {
	for _, c := range powerSums {
		sum, ok := impl.SumAt(dieOf(c.faces...), cnumber(c.re, c.im))
		wantEqual(t, ok, true, "SumAt succeeds", c.faces, cnumber(c.re, c.im))
		wantComplex(t, sum, c.wantRe, c.wantIm, "SumAt", c.faces, cnumber(c.re, c.im))
	}
	sum, ok := impl.SumAt(dieOf(1, 2), 2)
	wantEqual(t, ok && sum == 6, true, "SumAt", sum)
	for _, bits := range specialBits {
		z := cnumber(bits, negZeroBits)
		sum, ok := impl.SumAt(dieOf(0, 0, 0), z)
		if impl.IsFiniteComplex(z) {
			wantEqual(t, ok && sum == 3, true, "SumAt of faces of 0", z, sum, ok)
		} else {
			wantEqual(t, !ok && sum == 0, true, "SumAt of faces of 0", z, sum, ok)
		}
	}
}

func TestSmallPowersAreSummedExactly(t *testing.T) {
	draws := rand.New(rand.NewSource(55))
	for range 500 {
		d := drawDice(draws, 1, 12)[0]
		sum, ok := impl.SumAt(d, 1)
		wantEqual(t, ok && sum == complex(float32(len(d.Faces)), 0), true, "SumAt 1 counts faces", d, sum)
		var parts [4]int
		for _, face := range d.Faces {
			parts[face%4]++
		}
		sum, ok = impl.SumAt(d, 1i)
		wantEqual(t, ok && sum == complex(float32(parts[0]-parts[2]), float32(parts[1]-parts[3])), true, "SumAt i", d, sum)
	}
}

func TestPowersThatAreNotFiniteFail(t *testing.T) {
	wantNone := func(d impl.Die, z complex64) {
		t.Helper()
		sum, ok := impl.SumAt(d, z)
		wantEqual(t, !ok && sum == 0, true, "SumAt fails", d, z, sum, ok)
	}
	for _, z := range []complex64{3e38, 1e19 + 1e19i, 65504 - 3i, -2e20, 1e30i} {
		wantNone(dieOf(0, 1, 20), z)
		wantNone(dieOf(20), z)
	}
	wantNone(dieOf(1, 1), 3e38)
	wantNone(dieOf(2), 2e19)
	wantNone(dieOf(0, 0, 2), 2e19i)
	wantNone(dieOf(1, 1, 1, 1), 1-1e38i)
	inf, nan := float32(math.Inf(1)), float32(math.NaN())
	for _, d := range []impl.Die{dieOf(0), dieOf(1), dieOf(0, 1, 2)} {
		for _, z := range []complex64{complex(inf, 0), complex(0, inf), complex(-inf, 1), complex(nan, 0), complex(0, nan), complex(nan, inf)} {
			wantNone(d, z)
		}
	}
	for _, d := range badDice {
		wantNone(d, 1)
		wantNone(d, 0)
	}
	// Powers that are no faces may be any.
	sum, ok := impl.SumAt(dieOf(1), 3e38)
	wantEqual(t, ok && sum == 3e38, true, "SumAt of a great number", sum, ok)
}

var turnSums = []struct {
	dice []impl.Die
	want []uint32
}{
	{diceOf([]int64{1, 2}), []uint32{0x40000000, 0x00000000, 0xbf800000, 0x00000000, 0xbf800000, 0x00000000}},
	{diceOf([]int64{0}), []uint32{0x3f800000, 0x00000000}},
	{diceOf([]int64{1}), []uint32{0x3f800000, 0x00000000, 0xbf800000, 0x00000000}},
	{diceOf([]int64{0, 0, 0}, []int64{0, 0}), []uint32{0x40c00000, 0x00000000}},
	{diceOf([]int64{0, 3, 3}, []int64{1, 4}, []int64{2, 2, 5}), []uint32{0x41900000, 0x00000000, 0xc0e889f7, 0xc0741777, 0x3e1c8815, 0x3e62c666, 0x3efb2035, 0x40814357, 0x40bc38a5, 0xc1782631, 0xc11a3c4d, 0x4108a405, 0x3fb0ce9a, 0xbeae50db, 0x3fb0ce9a, 0x3eae50db, 0xc11a3c4d, 0xc108a405, 0x40bc38a5, 0x41782631, 0x3efb2035, 0xc0814357, 0x3e1c8815, 0xbe62c666, 0xc0e889f7, 0x40741777}},
	{diceOf([]int64{1, 2, 3, 4, 5, 6}, []int64{1, 2, 3, 4, 5, 6}), []uint32{0x42100000, 0x00000000, 0xc185a7a4, 0xc083c596, 0x3e70729d, 0x3dfc6498, 0xbfbe7be8, 0xbfa8c10d, 0x3e397b9e, 0x3e865bed, 0xbe8ca803, 0xbf3970a6, 0x3d5c4dc1, 0x3ee2cbd6, 0x3d5c4dc1, 0xbee2cbd6, 0xbe8ca803, 0x3f3970a6, 0x3e397b9e, 0xbe865bed, 0xbfbe7be8, 0x3fa8c10d, 0x3e70729d, 0xbdfc6498, 0xc185a7a4, 0x4083c596}},
	{diceOf([]int64{1, 2, 2, 3, 3, 4}, []int64{1, 3, 4, 5, 6, 8}), []uint32{0x42100000, 0x00000000, 0xc185a7a5, 0xc083c597, 0x3e707284, 0x3dfc64c4, 0xbfbe7be8, 0xbfa8c10e, 0x3e397b97, 0x3e865bec, 0xbe8ca801, 0xbf3970a6, 0x3d5c4da4, 0x3ee2cbd9, 0x3d5c4da4, 0xbee2cbd9, 0xbe8ca801, 0x3f3970a6, 0x3e397b97, 0xbe865bec, 0xbfbe7be8, 0x3fa8c10e, 0x3e707284, 0xbdfc64c4, 0xc185a7a5, 0x4083c597}},
	{diceOf([]int64{7}), []uint32{0x3f800000, 0x00000000, 0x3f3504f2, 0xbf3504f2, 0x00000000, 0xbf800000, 0xbf3504f2, 0xbf3504f2, 0xbf800000, 0x00000000, 0xbf3504f2, 0x3f3504f2, 0x00000000, 0x3f800000, 0x3f3504f2, 0x3f3504f2}},
}

// partsOf returns the parts of complex numbers, one behind the other.
func partsOf(list []complex64) []float32 {
	var parts []float32
	for _, z := range list {
		parts = append(parts, real(z), imag(z))
	}
	return parts
}

func TestTurnsAreProducts(t *testing.T) {
	for _, c := range turnSums {
		turns, ok := impl.TurnSums(c.dice)
		wantBits(t, partsOf(turns), ok, c.want, "TurnSums", c.dice)
	}
	for _, c := range []struct {
		dice  []impl.Die
		long  int
		check int64
	}{
		{mixedDice, 66, 5590},
		{manyOf(plainSided(12), 6), 73, 4620},
		{manyOf(dieOf(slices.Repeat([]int64{20}, 12)...), 6), 121, 38810},
	} {
		turns, ok := impl.TurnSums(c.dice)
		text, _ := impl.ComplexText(turns)
		check, _ := impl.CheckOf(0, text)
		wantEqual(t, ok && len(turns) == c.long && check == c.check, true, "TurnSums", c.dice, ok, len(turns), check)
	}
	for _, dice := range badLists() {
		turns, ok := impl.TurnSums(dice)
		wantEqual(t, ok || len(turns) > 0, false, "TurnSums fails", dice)
	}
}

// TestTurnsLeadBackToSums turns the products back: they have all chances of sums.
func TestTurnsLeadBackToSums(t *testing.T) {
	draws := rand.New(rand.NewSource(56))
	for range 100 {
		dice := drawDice(draws, 6, 12)
		turns, ok := impl.TurnSums(dice)
		counts, ways, _ := impl.SumCounts(dice)
		wantEqual(t, ok && len(turns) == len(counts), true, "TurnSums are as many as sums", dice, len(turns))
		for sum, count := range counts {
			back := 0.0
			for k, z := range turns {
				angle := -2 * math.Pi * float64(k) * float64(sum) / float64(len(turns))
				back += float64(real(z))*math.Cos(angle) - float64(imag(z))*math.Sin(angle)
			}
			back /= float64(len(turns))
			wantEqual(t, math.Abs(back-float64(count)) < 1e-5*float64(ways), true, "TurnSums lead back", dice, sum, count, back)
		}
	}
}
