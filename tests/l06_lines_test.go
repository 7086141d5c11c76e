package tests

import (
	"math/rand"
	"slices"
	"testing"

	"loop.example/g01401/impl"
)

// eachLine calls look with the indices of each line behind some, in order, and the numbers with which it begins and ends;
// a line is told once for each way in which its tiles can lie.
func eachLine(tiles []impl.Tile, line []int64, begins, ends int64, look func(line []int64, begins, ends int64)) {
	for i, tile := range tiles {
		if slices.Contains(line, int64(i)) {
			continue
		}
		for _, turned := range []bool{false, true} {
			from, to := tile.A, tile.B
			if turned {
				from, to = to, from
			}
			first := begins
			if len(line) == 0 {
				first = from
			} else if from != ends {
				continue
			}
			longer := append(slices.Clone(line), int64(i))
			look(longer, first, to)
			eachLine(tiles, longer, first, to, look)
		}
	}
}

// wantLines tells whether functions of tiles find what is found by looking at all lines.
func wantLines(t *testing.T, tiles []impl.Tile) {
	t.Helper()
	var longest []int64
	tour, ring := false, false
	eachLine(tiles, nil, 0, 0, func(line []int64, begins, ends int64) {
		if len(line) > len(longest) || len(line) == len(longest) && slices.Compare(line, longest) < 0 {
			longest = line
		}
		tour = tour || len(line) == len(tiles)
		ring = ring || len(line) == len(tiles) && begins == ends
	})
	line, ok := impl.LongestLine(tiles)
	wantList(t, line, ok, longest, "LongestLine", tiles)
	wantTours(t, tiles, tour, ring)
}

func wantTours(t *testing.T, tiles []impl.Tile, tour, ring bool) {
	t.Helper()
	has, ok := impl.HasTour(tiles, false)
	wantEqual(t, ok && has == tour, true, "HasTour", tiles, has, ok)
	has, ok = impl.HasTour(tiles, true)
	wantEqual(t, ok && has == ring, true, "HasTour as a ring", tiles, has, ok)
}

func TestTilesAreKnown(t *testing.T) {
	for _, tiles := range [][]impl.Tile{tilesOf(0, 0), tilesOf(6, 6), tilesOf(6, 0, 0, 6), make([]impl.Tile, 8), tilesOf(0, 1, 2, 1, 3, 3)} {
		wantEqual(t, impl.AreTiles(tiles), true, "AreTiles", tiles)
	}
	for _, tiles := range badTiles() {
		wantEqual(t, impl.AreTiles(tiles), false, "AreTiles", tiles)
		line, ok := impl.LongestLine(tiles)
		wantNoList(t, line, ok, "LongestLine", tiles)
		for _, ring := range []bool{false, true} {
			has, ok := impl.HasTour(tiles, ring)
			wantEqual(t, has || ok, false, "HasTour", tiles, ring)
		}
	}
}

func TestTilesAreTheSame(t *testing.T) {
	lists := append(badTiles()[1:], tilesOf(0, 1), tilesOf(1, 0), tilesOf(0, 1, 2, 1), tilesOf(2, 1, 0, 1), tilesOf(0, 1, 1, 2), tilesOf(0, 1, 2, 1, 3, 3))
	for i, a := range lists {
		for k, b := range lists {
			wantEqual(t, impl.SameTiles(a, slices.Clone(b)), i == k, "SameTiles", a, b)
		}
	}
	wantEqual(t, impl.SameTiles(nil, []impl.Tile{}), true, "SameTiles of none")
	wantEqual(t, impl.SameTiles(tilesOf(0, 1), nil), false, "SameTiles of some and none")
}

func TestLinesAreLongest(t *testing.T) {
	draws := rand.New(rand.NewSource(71))
	for count := 1; count <= 7; count++ {
		for range 40 {
			// Of few numbers, many lines are made; of many ones, few tiles join.
			wantLines(t, drawTiles(draws, count, 2+draws.Int63n(6)))
		}
	}
	for different := int64(3); different <= 7; different++ {
		wantLines(t, drawTiles(draws, 8, different))
	}
	cases := []struct {
		tiles      []impl.Tile
		want       []int64
		tour, ring bool
	}{
		{tilesOf(0, 1, 2, 1, 3, 3), []int64{0, 1}, false, false},
		{tilesOf(0, 1, 2, 1), []int64{0, 1}, true, false},
		{tilesOf(3, 3), []int64{0}, true, true},
		{tilesOf(0, 1), []int64{0}, true, false},
		{tilesOf(0, 1, 0, 1), []int64{0, 1}, true, true},
		{tilesOf(0, 1, 1, 0), []int64{0, 1}, true, true},
		{tilesOf(0, 1, 1, 2, 2, 0), []int64{0, 1, 2}, true, true},
		{tilesOf(0, 1, 0, 2, 0, 3), []int64{0, 1}, false, false},
		{tilesOf(0, 1, 2, 3, 4, 5), []int64{0}, false, false}, // tiles that do not join
		{tilesOf(0, 0, 1, 1, 2, 2), []int64{0}, false, false},
		{tilesOf(5, 6, 0, 1, 1, 2), []int64{1, 2}, false, false},
		{tilesOf(1, 2, 0, 0, 0, 1), []int64{0, 2, 1}, true, false},
		{tilesOf(0, 1, 1, 2, 2, 0, 3, 4, 4, 5, 5, 3), []int64{0, 1, 2}, false, false}, // two rings apart
		{tilesOf(0, 1, 1, 2, 2, 0, 0, 3, 3, 4, 4, 0), []int64{0, 1, 2, 3, 4, 5}, true, true},
		{make([]impl.Tile, 8), counted(8), true, true},
		{slices.Repeat(tilesOf(6, 5), 8), counted(8), true, true},
		{slices.Repeat(tilesOf(6, 5), 7), counted(7), true, false},
		{tilesOf(0, 1, 0, 2, 0, 3, 0, 4, 0, 5, 0, 6, 0, 0, 1, 2), []int64{2, 0, 7, 1, 6, 3}, false, false},
	}
	for _, c := range cases {
		line, ok := impl.LongestLine(c.tiles)
		wantList(t, line, ok, c.want, "LongestLine", c.tiles)
		wantTours(t, c.tiles, c.tour, c.ring)
		wantLines(t, c.tiles[:min(len(c.tiles), 6)])
	}
}

// TestTurnedTilesMakeTheSameLines turns tiles, which lie as they must in any line.
func TestTurnedTilesMakeTheSameLines(t *testing.T) {
	draws := rand.New(rand.NewSource(72))
	for range 100 {
		tiles := drawTiles(draws, 1+draws.Intn(8), 2+draws.Int63n(6))
		want, ok := impl.LongestLine(tiles)
		tour, fine := impl.HasTour(tiles, false)
		ring, good := impl.HasTour(tiles, true)
		wantEqual(t, ok && fine && good && tour == (len(want) == len(tiles)), true, "HasTour of the longest line", tiles)
		turned := slices.Clone(tiles)
		for i := range turned {
			if draws.Intn(2) == 0 {
				turned[i].A, turned[i].B = turned[i].B, turned[i].A
			}
		}
		line, ok := impl.LongestLine(turned)
		wantList(t, line, ok, want, "LongestLine of turned tiles", tiles, turned)
		wantTours(t, turned, tour, ring)
	}
}
