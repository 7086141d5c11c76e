package tests

import (
	"slices"
	"testing"

	"loop.example/g01401/impl"
)

func TestGamesAreTold(t *testing.T) {
	good := [][]impl.Game{nil, {}, gamesOf(0, 1, 0), gamesOf(2, 0, 1), gamesOf(1, 2, 2), slices.Repeat(gamesOf(0, 1, 1), 128)}
	for _, games := range good {
		for players := int64(3); players <= 16; players++ {
			wantEqual(t, impl.AreGames(players, games), true, "AreGames", players, len(games))
		}
		for _, players := range badPlayers {
			wantEqual(t, impl.AreGames(players, games), false, "AreGames", players, len(games))
		}
	}
	for _, games := range badGames() {
		wantEqual(t, impl.AreGames(3, games), false, "AreGames", games)
	}
	wantEqual(t, impl.AreGames(2, gamesOf(0, 1, 2, 1, 0, 2)), true, "AreGames of two")
	wantEqual(t, impl.AreGames(2, gamesOf(0, 2, 2)), false, "AreGames of two")
	wantEqual(t, impl.AreGames(16, gamesOf(15, 0, 2)), true, "AreGames of the last one")
	wantEqual(t, impl.AreGames(16, gamesOf(16, 0, 2)), false, "AreGames of one behind the last one")
	eachGames(func(players int64, games []impl.Game) {
		wantEqual(t, impl.AreGames(players, games), true, "AreGames", players, games)
	})
}

func TestGamesAreCompared(t *testing.T) {
	lists := append(badGames(), nil, gamesOf(0, 1, 2), gamesOf(1, 0, 2), gamesOf(0, 1, 1), gamesOf(0, 2, 2), gamesOf(0, 1, 2, 0, 1, 2), gamesOf(0, 1, 2, 0, 2, 2), gamesOf(0, 2, 2, 0, 1, 2))
	for i, a := range lists {
		for k, b := range lists {
			wantEqual(t, impl.SameGames(a, slices.Clone(b)), i == k, "SameGames", a, b)
		}
	}
	wantEqual(t, impl.SameGames(nil, []impl.Game{}), true, "SameGames of none")
}

// plainScore tells what a player has got, and how often it has met another one, by looking at each game from both sides.
func plainScore(games []impl.Game, player int64) int64 {
	score := int64(0)
	for _, g := range games {
		switch {
		case g.Result == 1 && (g.A == player || g.B == player):
			score++
		case g.Result == 2 && g.A == player, g.Result == 0 && g.B == player:
			score += 2
		}
	}
	return score
}

func plainMet(games []impl.Game, one, other int64) int64 {
	met := int64(0)
	for _, g := range games {
		if g.A == one && g.B == other || g.A == other && g.B == one {
			met++
		}
	}
	return met
}

func TestScoresAreTold(t *testing.T) {
	eachGames(func(players int64, games []impl.Game) {
		var scores, met, sums []int64
		for i := range players {
			scores = append(scores, plainScore(games, i))
			sum := int64(0)
			for k := range players {
				met = append(met, plainMet(games, i, k))
				sum += plainMet(games, i, k) * plainScore(games, k)
			}
			sums = append(sums, sum)
		}
		got, ok := impl.ScoresOf(players, games)
		wantList(t, got, ok, scores, "ScoresOf", players, games)
		wantEqual(t, sumOf(got), 2*int64(len(games)), "ScoresOf make 2 for each game", players, games)
		got, ok = impl.MetOf(players, games)
		wantList(t, got, ok, met, "MetOf", players, games)
		got, ok = impl.BuchholzOf(players, games)
		wantList(t, got, ok, sums, "BuchholzOf", players, games)
	})
}

func TestScoresOfFewGames(t *testing.T) {
	games := gamesOf(0, 1, 2, 1, 0, 2)
	scores, ok := impl.ScoresOf(2, games)
	wantList(t, scores, ok, []int64{2, 2}, "ScoresOf two who win and lose")
	met, ok := impl.MetOf(2, games)
	wantList(t, met, ok, []int64{0, 2, 2, 0}, "MetOf two who win and lose")
	sums, ok := impl.BuchholzOf(2, games)
	wantList(t, sums, ok, []int64{4, 4}, "BuchholzOf two who win and lose")
	// Players without games.
	scores, ok = impl.ScoresOf(4, gamesOf(2, 1, 0, 1, 2, 1, 1, 2, 2))
	wantList(t, scores, ok, []int64{0, 5, 1, 0}, "ScoresOf with players without games")
	met, ok = impl.MetOf(4, gamesOf(2, 1, 0, 1, 2, 1, 1, 2, 2))
	wantList(t, met, ok, []int64{0, 0, 0, 0, 0, 0, 3, 0, 0, 3, 0, 0, 0, 0, 0, 0}, "MetOf with players without games")
	sums, ok = impl.BuchholzOf(4, gamesOf(2, 1, 0, 1, 2, 1, 1, 2, 2))
	wantList(t, sums, ok, []int64{0, 3, 15, 0}, "BuchholzOf with players without games")
	scores, ok = impl.ScoresOf(3, nil)
	wantList(t, scores, ok, []int64{0, 0, 0}, "ScoresOf no games")
	met, ok = impl.MetOf(3, nil)
	wantList(t, met, ok, make([]int64, 9), "MetOf no games")
	sums, ok = impl.BuchholzOf(3, nil)
	wantList(t, sums, ok, []int64{0, 0, 0}, "BuchholzOf no games")
	scores, ok = impl.ScoresOf(16, slices.Repeat(gamesOf(15, 3, 2), 128))
	wantList(t, scores, ok, replaced(make([]int64, 16), 15, 256), "ScoresOf the most games")
}

func TestScoresFail(t *testing.T) {
	fail := func(players int64, games []impl.Game) {
		scores, ok := impl.ScoresOf(players, games)
		wantNoList(t, scores, ok, "ScoresOf", players, games)
		met, ok := impl.MetOf(players, games)
		wantNoList(t, met, ok, "MetOf", players, games)
		sums, ok := impl.BuchholzOf(players, games)
		wantNoList(t, sums, ok, "BuchholzOf", players, games)
	}
	for _, games := range badGames() {
		fail(3, games)
	}
	for _, players := range badPlayers {
		fail(players, nil)
		fail(players, gamesOf(0, 1, 2))
	}
	fail(2, gamesOf(0, 2, 1))
}
