package tests

import (
	"math"
	"math/rand"
	"slices"
	"testing"

	"loop.example/g01401/impl"
)

// placeCases have stacks, prizes, and the bits of chances and shares; they are computed by another program, which rounds each operation.
var placeCases = []struct {
	stacks, prizes  []int64
	chances, shares []uint32
}{
	{[]int64{5}, []int64{7},
		[]uint32{0x3f800000},
		[]uint32{0x40e00000}},
	{[]int64{3, 1}, []int64{8, 4},
		[]uint32{0x3f400000, 0x3e800000, 0x3e800000, 0x3f400000},
		[]uint32{0x40e00000, 0x40a00000}},
	{[]int64{1, 1, 1}, []int64{50, 30, 20},
		[]uint32{0x3eaaaaab, 0x3eaaaaab, 0x3eaaaaab, 0x3eaaaaab, 0x3eaaaaab, 0x3eaaaaab, 0x3eaaaaab, 0x3eaaaaab, 0x3eaaaaab},
		[]uint32{0x42055556, 0x42055556, 0x42055556}},
	{[]int64{5000, 3000, 2000}, []int64{50, 30, 20},
		[]uint32{0x3f000000, 0x3eadb6dc, 0x3e24924a, 0x3e99999a, 0x3ec00000, 0x3ea66666, 0x3e4ccccd, 0x3e924925, 0x3f03a83b},
		[]uint32{0x4219924a, 0x42030000, 0x41e6db6f}},
	{[]int64{1000000, 1, 999999, 7}, []int64{100, 99, 1, 0},
		[]uint32{0x3effffc5, 0x3effff72, 0x36c95305, 0x2d578060, 0x3506379e, 0x35863767, 0x3dffff37, 0x3f600000, 0x3effffb5, 0x3effff82, 0x36c9531a, 0x2d578081, 0x366ae155, 0x36eae0de, 0x3f5fff50, 0x3e000000},
		[]uint32{0x42c6ffb3, 0x3e0026ab, 0x42c6ffb3, 0x3f6043aa}},
	{[]int64{10, 20, 30, 40, 50}, []int64{1000000, 500001, 250000, 3, 0},
		[]uint32{0x3d888889, 0x3dad0dba, 0x3defe646, 0x3e4840e3, 0x3f094037, 0x3e088889, 0x3e21cd06, 0x3e4bd6ed, 0x3e8f7a6d, 0x3e6adeb0, 0x3e4ccccd, 0x3e5f024e, 0x3e740a2a, 0x3e64f369, 0x3df666ae, 0x3e888889, 0x3e852853, 0x3e6e34b6, 0x3e2e7f46, 0x3d8fd4a2, 0x3eaaaaab, 0x3e8f2c96, 0x3e59f716, 0x3e05579c, 0x3d340b42},
		[]uint32{0x4806f658, 0x487ff60d, 0x48b3eb00, 0x48de197b, 0x490081ea}},
	{[]int64{7, 11, 13, 17, 19, 23}, []int64{65, 45, 30, 20, 11, 3},
		[]uint32{0x3d9f49f5, 0x3db77995, 0x3ddb09bc, 0x3e0adff5, 0x3e466f8d, 0x3ecae4ee, 0x3dfa4fa5, 0x3e094996, 0x3e19ae5a, 0x3e316b6b, 0x3e555907, 0x3e591bd0, 0x3e13e93f, 0x3e1ddf3c, 0x3e2a3c63, 0x3e3971f3, 0x3e4522ea, 0x3e256648, 0x3e416c17, 0x3e420f68, 0x3e400e94, 0x3e37650d, 0x3e1fc200, 0x3dca9dc6, 0x3e582d83, 0x3e516218, 0x3e459d74, 0x3e31667c, 0x3e0e74c9, 0x3da1ef5b, 0x3e82d82e, 0x3e69a8e6, 0x3e48e460, 0x3e217725, 0x3de1bb7a, 0x3d55b5f7},
		[]uint32{0x4192a09a, 0x41c6fc0c, 0x41dc4e48, 0x42001c04, 0x4207c82e, 0x42152659}},
}

func TestPlacesAreTold(t *testing.T) {
	for _, c := range placeCases {
		chances, ok := impl.PlaceChances(c.stacks)
		wantBits(t, chances, ok, c.chances, "PlaceChances", c.stacks)
		shares, ok := impl.PrizeShares(c.stacks, c.prizes)
		wantBits(t, shares, ok, c.shares, "PrizeShares", c.stacks, c.prizes)
	}
}

// nearOne reports whether numbers have a sum near 1.
func nearOne(list []float32) bool {
	sum := 0.0
	for _, x := range list {
		sum += float64(x)
	}
	return math.Abs(sum-1) < 1e-5
}

func TestPlacesAddUp(t *testing.T) {
	draws := rand.New(rand.NewSource(71))
	for i := range 60 {
		n := 1 + i%6
		stacks := make([]int64, n)
		for seat := range stacks {
			stacks[seat] = 1 + draws.Int63n(1000000)
		}
		chances, ok := impl.PlaceChances(stacks)
		wantEqual(t, ok && len(chances) == n*n, true, "PlaceChances", stacks)
		for k := range n {
			var place []float32
			for seat := range n {
				place = append(place, chances[seat*n+k])
			}
			wantEqual(t, nearOne(place) && nearOne(chances[k*n:k*n+n]), true, "PlaceChances add up", stacks, k, chances)
		}
		equal, ok := impl.PrizeShares(stacks, slices.Repeat([]int64{600}, n))
		for _, share := range equal {
			wantEqual(t, ok && math.Abs(float64(share)-600) < 0.01, true, "PrizeShares of equal prizes", stacks, equal)
		}
	}
}

func TestPlacesFail(t *testing.T) {
	for _, stacks := range [][]int64{nil, {}, {0}, {1, 0}, {-1}, {5, -5}, {1000001}, {1, 2, 1000001}, {1, 2, 3, 4, 5, 6, 7}, make([]int64, 1000), {math.MinInt64, 1}, {1, math.MaxInt64}} {
		chances, ok := impl.PlaceChances(stacks)
		wantEqual(t, !ok && len(chances) == 0, true, "PlaceChances fails", stacks, chances)
		shares, ok := impl.PrizeShares(stacks, make([]int64, len(stacks)))
		wantEqual(t, !ok && len(shares) == 0, true, "PrizeShares fails", stacks, shares)
	}
	for _, prizes := range [][]int64{nil, {}, {5}, {1, 2, 3}, {-1, 2}, {1, 1000001}, {math.MinInt64, 1}, {1, math.MaxInt64}, make([]int64, 1000)} {
		shares, ok := impl.PrizeShares([]int64{3, 1}, prizes)
		wantEqual(t, !ok && len(shares) == 0, true, "PrizeShares fails", prizes, shares)
	}
	shares, ok := impl.PrizeShares([]int64{3, 1}, []int64{0, 1000000})
	wantBits(t, shares, ok, []uint32{math.Float32bits(250000), math.Float32bits(750000)}, "PrizeShares of the greatest prize")
}

func TestBlindsGrow(t *testing.T) {
	cases := []struct {
		first, by, of, count int64
		want                 []int64
	}{
		{10, 3, 2, 3, []int64{10, 15, 23}},
		{1, 100, 99, 5, []int64{1, 2, 3, 4, 5}},
		{7, 2, 1, 1, []int64{7}},
		{1, 2, 1, 20, []int64{1, 2, 4, 8, 16, 32, 64, 128, 256, 512, 1024, 2048, 4096, 8192, 16384, 32768, 65536, 131072, 262144, 524288}},
		{1, 100, 1, 4, []int64{1, 100, 10000, 1000000}},
		{1000000, 100, 1, 1, []int64{1000000}},
		{500000, 2, 1, 2, []int64{500000, 1000000}},
		{4, 3, 2, 4, []int64{4, 6, 9, 14}},
	}
	for _, c := range cases {
		blinds, ok := impl.BlindSteps(c.first, c.by, c.of, c.count)
		wantList(t, blinds, ok, c.want, "BlindSteps", c.first, c.by, c.of, c.count)
	}
	most, ok := impl.BlindSteps(1, 100, 99, 32)
	wantEqual(t, ok && len(most) == 32 && most[31] == 32, true, "BlindSteps of 32", most)
	bad := [][4]int64{
		{0, 3, 2, 3}, {-1, 3, 2, 3}, {1000001, 3, 2, 1}, {10, 2, 2, 3}, {10, 1, 2, 3}, {10, 3, 0, 3}, {10, 3, -1, 3}, {10, 101, 2, 3}, {10, 101, 100, 3},
		{10, 3, 2, 0}, {10, 3, 2, -1}, {1, 100, 99, 33}, {1, 2, 1, 21}, {1, 100, 1, 5}, {500001, 2, 1, 2}, {10, 2, 2, 1}, {10, 101, 100, 1},
		{math.MinInt64, 3, 2, 3}, {math.MaxInt64, 3, 2, 3}, {10, math.MaxInt64, 2, 3}, {10, 3, math.MinInt64, 3}, {10, math.MinInt64, math.MaxInt64, 3},
		{10, math.MaxInt64, math.MaxInt64 - 1, 3}, {10, 3, 2, math.MaxInt64}, {10, 3, 2, math.MinInt64},
	}
	for _, b := range bad {
		blinds, ok := impl.BlindSteps(b[0], b[1], b[2], b[3])
		wantNoList(t, blinds, ok, "BlindSteps", b)
	}
}

// plainHands pays hand by hand.
func plainHands(stack, small, big, ante, seats int64) int64 {
	untilBig := int64(0)
	for hands := int64(0); ; hands++ {
		cost := ante
		if untilBig == 0 {
			cost, untilBig = cost+big, seats
		} else if untilBig == seats-1 {
			cost += small
		}
		untilBig--
		stack -= cost
		if stack < 0 {
			return hands
		}
	}
}

func TestHandsArePaid(t *testing.T) {
	cases := [][6]int64{
		{30, 5, 10, 1, 3, 4}, {0, 5, 10, 1, 3, 0}, {10, 5, 10, 0, 3, 1}, {15, 5, 10, 0, 3, 3}, {24, 5, 10, 0, 3, 3}, {25, 5, 10, 0, 3, 4},
		{9, 5, 10, 0, 2, 0}, {10, 5, 10, 0, 2, 1}, {15, 5, 10, 0, 2, 2}, {0, 5, 0, 0, 6, 1}, {4, 5, 0, 0, 6, 1}, {5, 5, 0, 0, 6, 7}, {0, 0, 5, 0, 6, 0}, {5, 0, 5, 0, 6, 6},
		{1000000, 0, 0, 1, 6, 1000000}, {1000000, 1, 0, 0, 6, 6000001}, {1000000, 0, 1, 0, 6, 6000000}, {1000000, 1000000, 1000000, 1000000, 6, 0}, {7, 0, 0, 3, 4, 2},
	}
	for _, c := range cases {
		hands, ok := impl.HandsLeft(c[0], c[1], c[2], c[3], c[4])
		wantInteger(t, hands, ok, c[5], "HandsLeft", c)
	}
	draws := rand.New(rand.NewSource(72))
	for range 4000 {
		stack, small, big, ante, seats := draws.Int63n(120), draws.Int63n(9), draws.Int63n(9), draws.Int63n(4), 2+draws.Int63n(5)
		if small+big+ante > 0 {
			hands, ok := impl.HandsLeft(stack, small, big, ante, seats)
			wantInteger(t, hands, ok, plainHands(stack, small, big, ante, seats), "HandsLeft", stack, small, big, ante, seats)
		}
	}
	bad := [][5]int64{
		{30, 0, 0, 0, 3}, {0, 0, 0, 0, 3}, {30, 5, 10, 1, 1}, {30, 5, 10, 1, 7}, {30, 5, 10, 1, 0}, {30, 5, 10, 1, -3},
		{-1, 5, 10, 1, 3}, {30, -1, 10, 1, 3}, {30, 5, -1, 1, 3}, {30, 5, 10, -1, 3}, {30, 5, -5, 0, 3}, {1000001, 5, 10, 1, 3}, {30, 1000001, 10, 1, 3},
		{30, 5, 1000001, 1, 3}, {30, 5, 10, 1000001, 3}, {math.MaxInt64, 5, 10, 1, 3}, {30, math.MinInt64, 10, 1, 3}, {30, 5, math.MaxInt64, 1, 3},
		{30, 5, 10, math.MinInt64, 3}, {30, 5, 10, 1, math.MaxInt64}, {30, 5, 10, 1, math.MinInt64},
	}
	for _, b := range bad {
		hands, ok := impl.HandsLeft(b[0], b[1], b[2], b[3], b[4])
		wantNoInteger(t, hands, ok, "HandsLeft", b)
	}
}
