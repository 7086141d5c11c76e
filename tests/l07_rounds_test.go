package tests

import (
	"math"
	"math/rand"
	"slices"
	"testing"

	"loop.example/g01401/impl"
)

// The bits of this table are computed by another program, which rounds each operation.

var knockCases = []struct {
	players, seed int64
	want          []uint32
}{
	{2, 1234567891, []uint32{0x3c800000, 0x3f7c0000}},
	{2, 2469135782, []uint32{0x3f4d0000, 0x3e4c0000}},
	{4, 3703703673, []uint32{0x3de72700, 0x3d750580, 0x3e8d2fc0, 0x3f0d32e8}},
	{4, 643304268, []uint32{0x3e64aa80, 0x3ee870a0, 0x3e33f100, 0x3e168340}},
	{8, 1877872159, []uint32{0x3d8bc00e, 0x3e8edaad, 0x3d1dd0e2, 0x3c8eb844, 0x3d4c57d3, 0x3d4d3639, 0x3e049b64, 0x3ebc103d}},
	{8, 3112440050, []uint32{0x3e8acad0, 0x3cf215e3, 0x3e4e5729, 0x3d40afae, 0x3e4e040a, 0x3d157311, 0x3d8674b9, 0x3e170965}},
	{8, 52040645, []uint32{0x3e4d43dc, 0x3daccb82, 0x3e13ecbd, 0x3c74674b, 0x3e852076, 0x3a2b420a, 0x3deeb8e4, 0x3e36da8f}},
}

func TestKnockChancesAreTold(t *testing.T) {
	for _, c := range knockCases {
		wins := luckyWins(c.players, c.seed)
		chances, ok := impl.KnockChances(wins)
		wantBits(t, chances, ok, c.want, "KnockChances", wins)
	}
	// Who always wins wins all, and of those who are alike, all win as often.
	for _, players := range []int{2, 4, 8} {
		for first := range players {
			wins := make([]float32, players*players)
			for i := range players {
				for k := range players {
					switch {
					case i == first:
						wins[i*players+k] = 1
					case k != first:
						wins[i*players+k] = 0.5
					}
				}
			}
			chances, ok := impl.KnockChances(wins)
			want := make([]float32, players)
			want[first] = 1
			wantEqual(t, ok && sameList(chances, want), true, "KnockChances of one who always wins", players, first, chances)
		}
		alike, ok := impl.KnockChances(slices.Repeat([]float32{0.5}, players*players))
		wantEqual(t, ok && sameList(alike, slices.Repeat([]float32{1 / float32(players)}, players)), true, "KnockChances of players who are alike", players, alike)
		// Both need not make 1 together.
		all, ok := impl.KnockChances(slices.Repeat([]float32{1}, players*players))
		want := map[int]float32{2: 1, 4: 2, 8: 16}[players]
		wantEqual(t, ok && sameList(all, slices.Repeat([]float32{want}, players)), true, "KnockChances of players who all win", players, all)
	}
}

// plainChances adds up how likely each way is that games can end, told by the game that is won.
func plainChances(players int64, wins []float32) []float64 {
	chances := make([]float64, players)
	for bits := range 1 << (players - 1) {
		winners := make([]bool, players-1)
		for game := range winners {
			winners[game] = bits>>game&1 == 1
		}
		left := plainRounds(players, winners)
		come := append(counted(players), left...)
		likely := 1.0
		for game, winner := range left {
			loser := come[2*game] + come[2*game+1] - winner
			likely *= float64(wins[winner*players+loser])
		}
		chances[left[len(left)-1]] += likely
	}
	return chances
}

func TestKnockChancesMakeOne(t *testing.T) {
	for seed := range int64(20) {
		for _, players := range []int64{2, 4, 8} {
			wins := luckyWins(players, 1000*seed)
			chances, ok := impl.KnockChances(wins)
			wantEqual(t, ok && near(sumOfNumbers(chances), 1, 1e-5), true, "KnockChances make 1", wins, chances)
			for i, want := range plainChances(players, wins) {
				wantEqual(t, near(float64(chances[i]), want, 1e-6), true, "KnockChances", i, wins, chances, want)
			}
			// Who is beaten by oneself does not matter.
			for i := range players {
				wins[i*players+i] = float32(seed%5) / 4
			}
			again, ok := impl.KnockChances(wins)
			wantEqual(t, ok && sameList(again, chances), true, "KnockChances of each one against itself", wins, again, chances)
		}
	}
}

func TestKnockChancesFail(t *testing.T) {
	for _, size := range []int{0, 1, 2, 3, 5, 9, 15, 17, 25, 32, 63, 65, 256, 1000} {
		chances, ok := impl.KnockChances(make([]float32, size))
		wantNoNumbers(t, chances, ok, "KnockChances of size", size)
	}
	for _, players := range []int{2, 4, 8} {
		wins := slices.Repeat([]float32{0.5}, players*players)
		for place := range wins {
			if place%(players+1) == 0 {
				continue
			}
			for _, bits := range badChances {
				chances, ok := impl.KnockChances(replaced(wins, place, number(bits)))
				wantNoNumbers(t, chances, ok, "KnockChances", players, place, number(bits))
			}
			for _, bits := range []uint32{zeroBits, negZeroBits, oneBits} {
				chances, ok := impl.KnockChances(replaced(wins, place, number(bits)))
				wantEqual(t, ok && len(chances) == players, true, "KnockChances succeeds", players, place, number(bits))
			}
		}
	}
}

// plainRounds plays round by round.
func plainRounds(players int64, winners []bool) []int64 {
	var all []int64
	round := counted(players)
	for len(round) > 1 {
		var left []int64
		for len(round) > 0 {
			if winners[0] {
				left = append(left, round[0])
			} else {
				left = append(left, round[1])
			}
			round, winners = round[2:], winners[1:]
		}
		all, round = append(all, left...), left
	}
	return all
}

func TestKnockRoundsAreTold(t *testing.T) {
	for _, players := range []int64{2, 4, 8, 16} {
		for bits := range 1 << (players - 1) {
			winners := make([]bool, players-1)
			for game := range winners {
				winners[game] = bits>>game&1 == 1
			}
			left, ok := impl.KnockRounds(winners, players)
			wantList(t, left, ok, plainRounds(players, winners), "KnockRounds", players, winners)
		}
	}
	left, ok := impl.KnockRounds([]bool{true, false, true}, 4)
	wantList(t, left, ok, []int64{0, 3, 0}, "KnockRounds of 4")
	left, ok = impl.KnockRounds([]bool{true, false, false, true, true, false, false}, 8)
	wantList(t, left, ok, []int64{0, 3, 5, 6, 0, 6, 6}, "KnockRounds of 8")
	left, ok = impl.KnockRounds([]bool{false}, 2)
	wantList(t, left, ok, []int64{1}, "KnockRounds of 2")
}

func TestKnockRoundsFail(t *testing.T) {
	for _, players := range []int64{math.MinInt64, -4, -1, 0, 1, 3, 5, 6, 7, 9, 12, 15, 17, 32, 1 << 32, 1<<32 + 2, math.MaxInt64} {
		for _, count := range []int{0, 1, 2, 3, 4, 5, 6, 7, 8, 11, 14, 15, 16, 31} {
			left, ok := impl.KnockRounds(make([]bool, count), players)
			wantNoList(t, left, ok, "KnockRounds", count, players)
		}
	}
	for _, players := range []int64{2, 4, 8, 16} {
		for count := range int64(40) {
			left, ok := impl.KnockRounds(make([]bool, count), players)
			wantEqual(t, ok, count == players-1, "KnockRounds of winners", count, players)
			wantEqual(t, ok || len(left) == 0, true, "KnockRounds of winners", count, players)
		}
	}
}

// plainPairs looks for both of each pair by scores alone, and returns none if there is none for one.
func plainPairs(scores, met []int64) []int64 {
	players := len(scores)
	paired := make([]bool, players)
	best := func(fits func(i int) bool) int {
		found := -1
		for i := players - 1; i >= 0; i-- {
			if !paired[i] && fits(i) && (found < 0 || scores[i] >= scores[found]) {
				found = i
			}
		}
		return found
	}
	var pairs []int64
	for range players / 2 {
		one := best(func(int) bool { return true })
		paired[one] = true
		other := best(func(i int) bool { return met[one*players+i] == 0 })
		if other < 0 {
			return nil
		}
		paired[other] = true
		pairs = append(pairs, int64(one), int64(other))
	}
	return pairs
}

// metOf returns how often players have met, where pairs of numbers are those who have.
func metOf(players int64, pairs ...int64) []int64 {
	met := make([]int64, players*players)
	for pair := range slices.Chunk(pairs, 2) {
		met[pair[0]*players+pair[1]]++
		met[pair[1]*players+pair[0]]++
	}
	return met
}

func TestPairsAreFound(t *testing.T) {
	cases := []struct {
		scores, met, want []int64
	}{
		{[]int64{0, 0}, metOf(2), []int64{0, 1}},
		{[]int64{0, 1000}, metOf(2), []int64{1, 0}},
		{[]int64{1, 3, 2, 0}, metOf(4, 1, 2), []int64{1, 0, 2, 3}},
		{[]int64{1, 3, 2, 0}, metOf(4), []int64{1, 2, 0, 3}},
		{[]int64{5, 5, 5, 5}, metOf(4), []int64{0, 1, 2, 3}},
		{[]int64{5, 5, 5, 5}, metOf(4, 0, 1, 0, 2), []int64{0, 3, 1, 2}},
		{[]int64{1, 2, 2, 1, 2, 1}, metOf(6, 1, 2), []int64{1, 4, 2, 0, 3, 5}},
	}
	for _, c := range cases {
		pairs, ok := impl.SwissPairs(c.scores, c.met)
		wantList(t, pairs, ok, c.want, "SwissPairs", c.scores, c.met)
	}
	// All have met; and who is left at the end have, though others could meet.
	for _, met := range [][]int64{metOf(4, 0, 1, 0, 2, 0, 3), metOf(4, 2, 3)} {
		pairs, ok := impl.SwissPairs(make([]int64, 4), met)
		wantNoList(t, pairs, ok, "SwissPairs of those who have met", met)
	}
	pairs, ok := impl.SwissPairs([]int64{7, 7}, []int64{0, 128, 128, 0})
	wantNoList(t, pairs, ok, "SwissPairs of two who have met")
	draws, failed := rand.New(rand.NewSource(70)), 0
	for i := range 3000 {
		players := 2 + 2*draws.Int63n(8)
		var met []int64
		for range draws.Int63n(players*players/4 + 1) {
			met = append(met, draws.Int63n(players), draws.Int63n(players))
			if met[len(met)-1] == met[len(met)-2] {
				met = met[:len(met)-2]
			}
		}
		scores := make([]int64, players)
		for k := range scores {
			scores[k] = draws.Int63n([]int64{1, 2, 4, 1001}[i%4])
		}
		pairs, ok := impl.SwissPairs(scores, metOf(players, met...))
		want := plainPairs(scores, metOf(players, met...))
		if want == nil {
			failed++
			wantNoList(t, pairs, ok, "SwissPairs", scores, met)
			continue
		}
		wantList(t, pairs, ok, want, "SwissPairs", scores, met)
		wantWhole(t, pairs, ok, int(players), "SwissPairs of all", scores, met)
	}
	wantEqual(t, failed > 100 && failed < 2900, true, "some drawn pairs fail", failed)
}

func TestPairsFail(t *testing.T) {
	fail := func(scores, met []int64) {
		pairs, ok := impl.SwissPairs(scores, met)
		wantNoList(t, pairs, ok, "SwissPairs", scores, met)
	}
	for _, players := range []int{0, 1, 3, 5, 7, 15, 17, 18, 100} {
		fail(make([]int64, players), make([]int64, players*players))
	}
	for _, size := range []int{0, 1, 4, 15, 17, 25, 64} {
		fail(make([]int64, 4), make([]int64, size))
	}
	for place := range 4 {
		for _, bad := range []int64{math.MinInt64, -1, 1001, 1 << 32, math.MaxInt64} {
			fail(replaced(make([]int64, 4), place, bad), make([]int64, 16))
		}
	}
	for place := range int64(16) {
		for _, bad := range []int64{math.MinInt64, -1, 129, 1 << 32, math.MaxInt64} {
			met := replaced(make([]int64, 16), int(place), bad)
			met[place%4*4+place/4] = bad // equal both ways
			fail(make([]int64, 4), met)
		}
		// Not equal both ways, or not 0 in the middle.
		fail(make([]int64, 4), replaced(make([]int64, 16), int(place), 1))
		fail(make([]int64, 4), replaced(metOf(4, place/4, place%4), int(place), 3))
	}
	fail([]int64{0, 0}, []int64{1, 0, 0, 1})
}

// plainTies takes the best player that is left, again and again.
func plainTies(scores, others []int64) []int64 {
	var order []int64
	for range scores {
		best := int64(-1)
		for i := range int64(len(scores)) {
			if slices.Contains(order, i) {
				continue
			}
			if best < 0 || scores[i] > scores[best] || scores[i] == scores[best] && others[i] > others[best] {
				best = i
			}
		}
		order = append(order, best)
	}
	return order
}

func TestTiesAreOrdered(t *testing.T) {
	order, ok := impl.TieOrder([]int64{1, 1, 2}, []int64{0, 5, 0})
	wantList(t, order, ok, []int64{2, 1, 0}, "TieOrder")
	order, ok = impl.TieOrder(make([]int64, 16), make([]int64, 16))
	wantList(t, order, ok, counted(16), "TieOrder of equal ones")
	order, ok = impl.TieOrder([]int64{0, 1000}, []int64{1000000, 0})
	wantList(t, order, ok, []int64{1, 0}, "TieOrder of the greatest ones")
	draws := rand.New(rand.NewSource(71))
	for i := range 3000 {
		players := 2 + draws.Intn(15)
		scores, others := make([]int64, players), make([]int64, players)
		for k := range players {
			scores[k] = draws.Int63n([]int64{1, 2, 3, 1001}[i%4])
			others[k] = draws.Int63n([]int64{1, 3, 1000001}[i%3])
		}
		order, ok := impl.TieOrder(scores, others)
		wantList(t, order, ok, plainTies(scores, others), "TieOrder", scores, others)
	}
}

func TestTiesFail(t *testing.T) {
	fail := func(scores, others []int64) {
		order, ok := impl.TieOrder(scores, others)
		wantNoList(t, order, ok, "TieOrder", scores, others)
	}
	for _, players := range []int{0, 1, 17, 1000} {
		fail(make([]int64, players), make([]int64, players))
	}
	fail(make([]int64, 3), make([]int64, 2))
	fail(make([]int64, 3), make([]int64, 4))
	fail(make([]int64, 3), nil)
	fail(nil, make([]int64, 3))
	for place := range 3 {
		for _, bad := range []int64{math.MinInt64, -1, 1001, 1 << 32, math.MaxInt64} {
			fail(replaced(make([]int64, 3), place, bad), make([]int64, 3))
		}
		for _, bad := range []int64{math.MinInt64, -1, 1000001, 1 << 32, math.MaxInt64} {
			fail(make([]int64, 3), replaced(make([]int64, 3), place, bad))
		}
	}
}
