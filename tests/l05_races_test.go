package tests

import (
	"math/big"
	"testing"

	"loop.example/g01401/impl"
)

// plainRace returns how likely the one who throws next wins, throw by throw.
func plainRace(left, other, faces int64, known map[[2]int64]*big.Rat) *big.Rat {
	switch {
	case left <= 0:
		return big.NewRat(1, 1)
	case other <= 0:
		return new(big.Rat)
	case known[[2]int64{left, other}] != nil:
		return known[[2]int64{left, other}]
	}
	chance := new(big.Rat)
	for face := int64(1); face <= faces; face++ {
		if face >= left {
			chance.Add(chance, big.NewRat(1, 1))
			continue
		}
		lost := plainRace(other, left-face, faces, known)
		chance.Add(chance, new(big.Rat).Sub(big.NewRat(1, 1), lost))
	}
	chance.Mul(chance, big.NewRat(1, faces))
	known[[2]int64{left, other}] = chance
	return chance
}

func TestRacesAreWon(t *testing.T) {
	for faces := int64(2); faces <= 6; faces++ {
		known := map[[2]int64]*big.Rat{}
		for left := int64(0); left <= 8; left++ {
			for other := int64(0); other <= 8; other++ {
				over, under, ok := impl.RaceChance(left, other, faces)
				wantRat(t, over, under, ok, plainRace(left, other, faces, known), "RaceChance", left, other, faces)
				wantEqual(t, isShare(over, under), true, "RaceChance is a chance", left, other, faces, over, under)
			}
		}
	}
	cases := [][5]int64{
		// These are computed by another program.
		{1, 1, 2, 1, 1},
		{2, 1, 2, 1, 2},
		{8, 8, 6, 53676799843, 78364164096},
		{8, 8, 2, 11127, 16384},
		{8, 7, 5, 689739734, 1220703125},
		{7, 8, 3, 431755, 531441},
		{8, 1, 6, 0, 1},
		{1, 8, 6, 1, 1},
		{3, 5, 4, 123, 128},
		{6, 2, 6, 7, 27},
		{0, 5, 6, 1, 1},
		{5, 0, 6, 0, 1},
		{0, 0, 2, 1, 1},
		{8, 8, 3, 3194575, 4782969},
	}
	for _, c := range cases {
		over, under, ok := impl.RaceChance(c[0], c[1], c[2])
		wantFraction(t, over, under, ok, c[3], c[4], "RaceChance", c)
	}
	without([]int64{3, 4, 6}, [][]int64{{-1, 9}, {-1, 9}, {1, 0, -6, 7}}, func(a []int64) {
		over, under, ok := impl.RaceChance(a[0], a[1], a[2])
		wantNoFraction(t, over, under, ok, "RaceChance", a)
	})
	for _, a := range [][3]int64{{0, 9, 2}, {9, 0, 2}, {0, 0, 1}, {0, 0, 7}, {-1, 0, 2}, {0, -1, 2}} {
		over, under, ok := impl.RaceChance(a[0], a[1], a[2])
		wantNoFraction(t, over, under, ok, "RaceChance", a)
	}
}

// plainRolls returns how many throws are needed in the mean: one, and those behind it.
func plainRolls(left, faces int64, known map[int64]*big.Rat) *big.Rat {
	if left <= 0 {
		return new(big.Rat)
	}
	if known[left] == nil {
		mean := new(big.Rat)
		for face := int64(1); face <= faces; face++ {
			mean.Add(mean, plainRolls(left-face, faces, known))
		}
		mean.Mul(mean, big.NewRat(1, faces))
		known[left] = mean.Add(mean, big.NewRat(1, 1))
	}
	return known[left]
}

func TestRacesNeedThrows(t *testing.T) {
	for faces := int64(2); faces <= 6; faces++ {
		known := map[int64]*big.Rat{}
		for left := int64(0); left <= 12; left++ {
			over, under, ok := impl.RaceRolls(left, faces)
			wantRat(t, over, under, ok, plainRolls(left, faces, known), "RaceRolls", left, faces)
		}
	}
	cases := [][4]int64{
		// These are computed by another program.
		{2, 2, 3, 2},
		{0, 2, 0, 1},
		{0, 6, 0, 1},
		{1, 6, 1, 1},
		{6, 6, 16807, 7776},
		{12, 6, 1417221463, 362797056},
		{12, 2, 16839, 2048},
		{12, 5, 216997056, 48828125},
		{7, 3, 2800, 729},
		{11, 4, 5031161, 1048576},
	}
	for _, c := range cases {
		over, under, ok := impl.RaceRolls(c[0], c[1])
		wantFraction(t, over, under, ok, c[2], c[3], "RaceRolls", c)
	}
	without([]int64{3, 6}, [][]int64{{-1, 13}, {1, 0, -6, 7}}, func(a []int64) {
		over, under, ok := impl.RaceRolls(a[0], a[1])
		wantNoFraction(t, over, under, ok, "RaceRolls", a)
	})
	for _, a := range [][2]int64{{0, 1}, {0, 7}} {
		over, under, ok := impl.RaceRolls(a[0], a[1])
		wantNoFraction(t, over, under, ok, "RaceRolls", a)
	}
}
