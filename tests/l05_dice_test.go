package tests

import (
	"testing"

	"loop.example/g01401/impl"
)

func TestDiceAreTold(t *testing.T) {
	for faces := 1; faces <= 14; faces++ {
		for face := int64(-2); face <= 22; face++ {
			list := make([]int64, faces)
			for i := range list {
				list[i] = face
			}
			wantEqual(t, impl.ValidDie(dieOf(list...)), faces <= 12 && face >= 0 && face <= 20, "ValidDie", list)
			list[faces-1] = face + 1
			wantEqual(t, impl.ValidDie(dieOf(list...)), faces <= 12 && list[0] >= 0 && face <= 19, "ValidDie", list)
			if faces > 1 {
				list[faces-1] = face - 1
				wantEqual(t, impl.ValidDie(dieOf(list...)), false, "ValidDie of descending faces", list)
			}
		}
	}
	for _, d := range badDice {
		wantEqual(t, impl.ValidDie(d), false, "ValidDie", d)
	}
	for _, d := range mixedDice {
		wantEqual(t, impl.ValidDie(d), true, "ValidDie", d)
	}
	wantEqual(t, impl.MaxFaces == 12 && impl.MaxDice == 6 && impl.MaxFace == 20 && impl.MaxPools == 8, true, "limits of chapter 5")
}

func TestDiceAreCompared(t *testing.T) {
	all := append(append([]impl.Die{dieOf(1, 2), dieOf(1, 1), dieOf(2, 1), dieOf(1, 2, 2), dieOf(0), dieOf(1), dieOf(0, 0)}, mixedDice...), badDice[2:]...)
	for i, a := range all {
		for k, b := range all {
			wantEqual(t, impl.SameDie(a, b), i == k, "SameDie", a, b)
		}
		wantEqual(t, impl.SameDie(a, dieOf(append([]int64{}, a.Faces...)...)), true, "SameDie of copies", a)
	}
	wantEqual(t, impl.SameDie(impl.Die{}, dieOf([]int64{}...)), true, "SameDie of no faces")
	wantEqual(t, impl.SameDie(impl.Die{}, dieOf(0)), false, "SameDie of no faces, and one")
}

func TestPlainDiceAreCounted(t *testing.T) {
	for n := int64(1); n <= 12; n++ {
		d, ok := impl.PlainDie(n)
		wantEqual(t, ok && impl.ValidDie(d), true, "PlainDie succeeds", n)
		wantDie(t, d, counted(n + 1)[1:], "PlainDie", n)
	}
	for _, n := range append([]int64{0, -12, 13, 20}, farNumbers...) {
		d, ok := impl.PlainDie(n)
		wantEqual(t, ok, false, "PlainDie fails", n)
		wantDie(t, d, nil, "PlainDie fails", n)
	}
}
