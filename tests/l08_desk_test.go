package tests

import (
	"slices"
	"testing"

	"loop.example/g01401/impl"
)

func TestNewDesk(t *testing.T) {
	d := impl.NewDesk()
	wantEqual(t, sameDesks(d, plainNewDesk()), true, "NewDesk", d)
	wantEqual(t, impl.ValidDesk(d), true, "NewDesk is valid")
}

func TestDesksAreValid(t *testing.T) {
	for _, d := range someDesks() {
		wantEqual(t, impl.ValidDesk(d), true, "ValidDesk", d)
	}
	for _, d := range badDesks() {
		wantEqual(t, impl.ValidDesk(d), false, "ValidDesk", d)
	}
	for _, part := range []impl.Desk{deskOf([]int64{0}, nil, nil), deskOf(nil, make([]int64, 9), nil), deskOf(nil, nil, []int64{0}),
		deskOf([]int64{0}, make([]int64, 9), nil), deskOf([]int64{0}, nil, []int64{0}), deskOf(nil, make([]int64, 9), []int64{0})} {
		wantEqual(t, impl.ValidDesk(part), false, "ValidDesk without a part", part)
	}
	wantEqual(t, impl.ValidDesk(deskOf([]int64{0}, make([]int64, 9), []int64{5})), true, "ValidDesk of the least parts")
}

func TestDesksAreTheSame(t *testing.T) {
	desks := append(someDesks(), badDesks()...)
	for i, a := range desks {
		wantEqual(t, impl.SameDesk(a, copyOf(a)), true, "SameDesk", a)
		for k, b := range desks {
			same := i == k || sameDesks(a, b)
			wantEqual(t, impl.SameDesk(a, b), same, "SameDesk", a, b)
		}
		for _, other := range []impl.Desk{
			deskOf(append(slices.Clone(a.Deck), 0), a.Counts, a.Word), deskOf(a.Deck, append(slices.Clone(a.Counts), 0), a.Word),
			deskOf(a.Deck, a.Counts, append(slices.Clone(a.Word), 0))} {
			wantEqual(t, impl.SameDesk(a, other), false, "SameDesk of a longer part", a, other)
			wantEqual(t, impl.SameDesk(other, a), false, "SameDesk of a shorter part", a, other)
		}
	}
	one := []int64{1}
	for _, other := range []impl.Desk{deskOf([]int64{2}, one, one), deskOf(one, []int64{2}, one), deskOf(one, one, []int64{2}), deskOf(nil, one, one), deskOf(one, nil, one), deskOf(one, one, nil)} {
		wantEqual(t, impl.SameDesk(deskOf(one, one, one), other), false, "SameDesk of another part", other)
		wantEqual(t, impl.SameDesk(other, deskOf(one, one, one)), false, "SameDesk of another part", other)
	}
}
