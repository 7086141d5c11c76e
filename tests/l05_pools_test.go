package tests

import (
	"math/big"
	"slices"
	"testing"

	"loop.example/g01401/impl"
)

// plainPool returns how likely at least need of dice throws are at least least, throw by throw.
func plainPool(dice int64, d impl.Die, least, need int64) *big.Rat {
	if dice == 0 {
		if need <= 0 {
			return big.NewRat(1, 1)
		}
		return new(big.Rat)
	}
	one := big.NewRat(1, int64(len(d.Faces)))
	chance := new(big.Rat)
	enough, other := plainPool(dice-1, d, least, need-1), plainPool(dice-1, d, least, need)
	for _, face := range d.Faces {
		next := other
		if face >= least {
			next = enough
		}
		chance.Add(chance, new(big.Rat).Mul(one, next))
	}
	return chance
}

func TestPoolsAreThrown(t *testing.T) {
	for _, d := range []impl.Die{plainSided(6), plainSided(12), dieOf(0, 0, 1), dieOf(7), dieOf(0), dieOf(2, 3, 3, 3, 20), mixedDice[0]} {
		for dice := int64(1); dice <= 5; dice++ {
			for need := int64(0); need <= dice; need++ {
				for _, least := range append([]int64{0, 1, 2, 3, 4, 7, 13, 20, 21}, farNumbers...) {
					over, under, ok := impl.PoolChance(dice, d, least, need)
					wantRat(t, over, under, ok, plainPool(dice, d, least, need), "PoolChance", dice, d, least, need)
				}
			}
		}
	}
	cases := []struct {
		dice        int64
		d           impl.Die
		least, need int64
		over, under int64
	}{
		// These are computed by another program.
		{2, dieOf(1, 2), 2, 1, 3, 4},
		{8, plainSided(12), 12, 8, 1, 429981696},
		{8, plainSided(12), 12, 1, 215622815, 429981696},
		{8, plainSided(12), 2, 8, 214358881, 429981696},
		{8, plainSided(12), 8, 4, 191271875, 429981696},
		{7, plainSided(11), 7, 3, 13491875, 19487171},
		{8, plainSided(6), 5, 0, 1, 1},
		{1, plainSided(6), 6, 1, 1, 6},
		{6, plainSided(10), 8, 2, 23193, 40000},
		{8, dieOf(7), 7, 8, 1, 1},
		{8, dieOf(7), 8, 1, 0, 1},
		{8, dieOf(7), 8, 0, 1, 1},
		{5, dieOf(0, 0, 20), 1, 2, 131, 243},
	}
	for _, c := range cases {
		over, under, ok := impl.PoolChance(c.dice, c.d, c.least, c.need)
		wantFraction(t, over, under, ok, c.over, c.under, "PoolChance", c)
	}
}

func TestPoolsFail(t *testing.T) {
	without([]int64{5, 4, 3}, [][]int64{{0, -5, 9, 2}, nil, {-1, 6, 8}}, func(a []int64) {
		if a[1] != 4 {
			return // any number may be enough
		}
		over, under, ok := impl.PoolChance(a[0], plainSided(6), a[1], a[2])
		wantNoFraction(t, over, under, ok, "PoolChance", a)
	})
	for dice := int64(1); dice <= 8; dice++ {
		over, under, ok := impl.PoolChance(dice, plainSided(6), 3, dice)
		wantEqual(t, ok && isShare(over, under), true, "PoolChance of all throws", dice)
		over, under, ok = impl.PoolChance(dice, plainSided(6), 3, dice+1)
		wantNoFraction(t, over, under, ok, "PoolChance of more than all throws", dice)
	}
	for _, d := range badDice {
		over, under, ok := impl.PoolChance(2, d, 1, 1)
		wantNoFraction(t, over, under, ok, "PoolChance", d)
		// Without numbers of dice, too, a die is wanted.
		uppers, ok := impl.PoolsShared(d, nil, 1, 1, 1)
		wantNoList(t, uppers, ok, "PoolsShared", d)
		uppers, ok = impl.PoolsShared(d, []int64{1, 2}, 1, 1, 1)
		wantNoList(t, uppers, ok, "PoolsShared", d)
	}
}

func TestPoolsAreShared(t *testing.T) {
	d, numbers := plainSided(10), []int64{8, 7, 6, 5, 4, 3, 2, 2, 3, 4, 5, 6, 7, 8, 8, 2}
	var want []int64
	for _, dice := range numbers {
		over, _, _ := impl.PoolChance(dice, d, 8, 2)
		want = append(want, over)
	}
	for range 20 {
		for workers := int64(1); workers <= 8; workers++ {
			for long := range len(numbers) + 1 {
				uppers, ok := impl.PoolsShared(d, numbers[:long], 8, 2, workers)
				wantList(t, uppers, ok, want[:long], "PoolsShared", long, workers)
			}
		}
	}
	uppers, ok := impl.PoolsShared(dieOf(1, 2), []int64{1, 2}, 2, 1, 2)
	wantList(t, uppers, ok, []int64{1, 3}, "PoolsShared")
	for _, least := range farNumbers {
		for _, need := range farNumbers {
			uppers, ok := impl.PoolsShared(d, nil, least, need, 8)
			wantList(t, uppers, ok, nil, "PoolsShared of no numbers of dice", least, need)
			uppers, ok = impl.PoolsShared(d, []int64{3}, least, need, 8)
			wantNoList(t, uppers, ok, "PoolsShared", least, need)
		}
	}
}

func TestSharedPoolsFail(t *testing.T) {
	d, two := plainSided(6), []int64{2, 2}
	for _, workers := range append([]int64{0, -8, 9}, farNumbers...) {
		for _, numbers := range [][]int64{nil, two} {
			uppers, ok := impl.PoolsShared(d, numbers, 3, 1, workers)
			wantNoList(t, uppers, ok, "PoolsShared", numbers, workers)
		}
	}
	// Each place may be the one at which it fails, for any workers.
	for _, bad := range append([]int64{0, -1, 1, 9}, farNumbers...) {
		for at := range 16 {
			for workers := int64(1); workers <= 8; workers++ {
				numbers := slices.Repeat([]int64{4}, 16)
				numbers[at] = bad
				uppers, ok := impl.PoolsShared(d, numbers, 3, 2, workers)
				wantNoList(t, uppers, ok, "PoolsShared", numbers, workers)
			}
		}
	}
	for _, need := range []int64{-1, 3} {
		uppers, ok := impl.PoolsShared(d, two, 3, need, 2)
		wantNoList(t, uppers, ok, "PoolsShared", need)
	}
	for _, long := range []int{17, 100, 1 << 20} {
		uppers, ok := impl.PoolsShared(d, slices.Repeat([]int64{2}, long), 3, 1, 2)
		wantNoList(t, uppers, ok, "PoolsShared", long)
	}
}
