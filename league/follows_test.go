package league_test

import (
	"math/rand"
	"slices"
	"testing"

	"icehall/api"
	"icehall/league"
)

// P10.7, P8: what is clinched stays so behind each open game, however it ends; and in the table behind all of them who is in has one of the places, and who is out has not. Nobody is both.
func TestClinchedStays(t *testing.T) {
	rnd := rand.New(rand.NewSource(1006))
	ins, outs := 0, 0
	for range 1500 {
		l := anyLeague(rnd, 16, 5)
		opens := openGames(l, all)
		var ends [][]api.Standing
		for range 4 {
			ends = append(ends, mustTable(t, decideAll(rnd, l, opens)))
		}
		for team := range l.Far {
			for places := 1; places <= len(l.Far); places++ {
				in, out := mustClinch(t, l, team, places)
				if in && out {
					t.Fatalf("%v: %d is in the first %d, and out", l, team, places)
				}
				for _, table := range ends {
					if p := place(table, team); in && p > places || out && p <= places {
						t.Fatalf("%v, %d in the first %d: %v, %v, but %v", l, team, places, in, out, table)
					}
				}
				if !in && !out || len(opens) == 0 {
					continue
				}
				game := opens[rnd.Intn(len(opens))]
				for way := range 4 {
					if i, o := mustClinch(t, decide(rnd, l, game, way), team, places); in && !i || out && !o {
						t.Fatalf("%v, %d in the first %d: %v, %v, but behind the game %d, way %d: %v, %v", l, team, places, in, out, game, way, i, o)
					}
				}
				if in {
					ins++
				} else {
					outs++
				}
			}
		}
	}
	if ins < 2000 || outs < 1000 {
		t.Error("too few cases", ins, outs)
	}
}

// P10.7: what is not clinched can happen: if each way in which an open game can end leaves a team in, or out, it is so already.
func TestNotClinchedCanHappen(t *testing.T) {
	rnd := rand.New(rand.NewSource(1007))
	seen := 0
	for range 1000 {
		l := anyLeague(rnd, 12, 4)
		opens := openGames(l, all)
		if len(opens) == 0 {
			continue
		}
		team, places := rnd.Intn(len(l.Far)), 1+rnd.Intn(len(l.Far))
		in, out := mustClinch(t, l, team, places)
		alwaysIn, alwaysOut := true, true
		for way := range 4 {
			i, o := mustClinch(t, decide(rnd, l, opens[0], way), team, places)
			alwaysIn, alwaysOut = alwaysIn && i, alwaysOut && o
		}
		if in != alwaysIn || out != alwaysOut {
			t.Fatalf("%v, %d in the first %d: %v, %v, not %v, %v", l, team, places, in, out, alwaysIn, alwaysOut)
		}
		if !in && !out {
			seen++
		}
	}
	if seen < 100 {
		t.Error("too few cases", seen)
	}
}

// P10.7: who needs 0 points has clinched it; who gets as many points as are needed has, too, whatever else is open; and with one less it may not be.
func TestNeeded(t *testing.T) {
	rnd := rand.New(rand.NewSource(1008))
	zero, got, short := 0, 0, 0
	for range 4000 {
		l := anyLeague(rnd, 14, 4)
		team, places := rnd.Intn(len(l.Far)), 1+rnd.Intn(len(l.Far))
		need, e := league.Needs(l, team, places)
		in, _ := mustClinch(t, l, team, places)
		if in != (need == 0 && e == api.OK) {
			t.Fatalf("%v, %d in the first %d: needs %d, error %d, but %v", l, team, places, need, e, in)
		}
		if in {
			zero++
		}
		for range 3 {
			end := decideAll(rnd, l, openGames(l, team))
			points := sumBy(end.Games, team) - sumBy(l.Games, team)
			in, _ := mustClinch(t, end, team, places)
			if e == api.OK && points >= need {
				if got++; !in {
					t.Fatalf("%v, %d in the first %d: needs %d, but with %d it is not in: %v", l, team, places, need, points, end)
				}
			} else if !in {
				short++
			}
		}
	}
	if zero < 500 || got < 2000 || short < 2000 {
		t.Error("too few cases", zero, got, short)
	}
}

// P10.7: with more places no more is needed.
func TestMorePlaces(t *testing.T) {
	rnd := rand.New(rand.NewSource(1009))
	for range 500 {
		l := anyLeague(rnd, 14, 5)
		for team := range l.Far {
			before, found := 0, false
			for places := 1; places <= len(l.Far); places++ {
				need, e := league.Needs(l, team, places)
				if found && (e != api.OK || need > before) {
					t.Fatalf("%v, %d: needs %d, but in the first %d: %d, error %d", l, team, before, places, need, e)
				}
				before, found = need, e == api.OK
			}
			if !found || before != 0 {
				t.Fatalf("%v, %d: needs %d for a place", l, team, before)
			}
		}
	}
}

// P10.7, P11: a table does not depend on the order of games, nor on who is the home team; and neither does what is certain.
func TestOrderOfGames(t *testing.T) {
	rnd := rand.New(rand.NewSource(1010))
	for range 1500 {
		l := anyLeague(rnd, 14, 4)
		other := cloneLeague(l)
		rnd.Shuffle(len(other.Games), func(i, k int) { other.Games[i], other.Games[k] = other.Games[k], other.Games[i] })
		for i := range other.Games {
			if g := &other.Games[i]; rnd.Intn(2) == 0 {
				g.Home, g.Away, g.HomeGoals, g.AwayGoals = g.Away, g.Home, g.AwayGoals, g.HomeGoals
			}
		}
		if a, b := mustTable(t, l), mustTable(t, other); !slices.Equal(a, b) {
			t.Fatalf("%v: %v; %v: %v", l, a, other, b)
		}
		team, places := rnd.Intn(len(l.Far)), 1+rnd.Intn(len(l.Far))
		in, out := mustClinch(t, l, team, places)
		need, e := league.Needs(l, team, places)
		if i, o := mustClinch(t, other, team, places); i != in || o != out {
			t.Fatalf("%v: %v, %v; %v: %v, %v", l, in, out, other, i, o)
		}
		if n, f := league.Needs(other, team, places); n != need || f != e {
			t.Fatalf("%v: %d, error %d; %v: %d, error %d", l, need, e, other, n, f)
		}
	}
}

// P10.7: a team that wins one game more loses no place to those who did not play in it, be it an open one or a new one.
func TestOneGameMore(t *testing.T) {
	rnd := rand.New(rand.NewSource(1011))
	seen := 0
	for range 3000 {
		l := anyLeague(rnd, 14, 3)
		won := cloneLeague(l)
		g := anyGame(rnd, len(l.Far), 9)
		if opens := openGames(l, all); len(opens) > 0 && rnd.Intn(2) == 0 {
			g.Home, g.Away = l.Games[opens[0]].Home, l.Games[opens[0]].Away
			won.Games[opens[0]] = g
		} else {
			won.Games = append(won.Games, g)
		}
		winner, loser := g.Home, g.Away
		if g.AwayGoals > g.HomeGoals {
			winner, loser = loser, winner
		}
		before, behind := mustTable(t, l), mustTable(t, won)
		for team := range l.Far {
			if team == winner || team == loser || place(before, team) < place(before, winner) {
				continue
			}
			if seen++; place(behind, team) < place(behind, winner) {
				t.Fatalf("%v, then %v: %v, then %v", l, g, before, behind)
			}
		}
	}
	if seen < 3000 {
		t.Error("too few cases", seen)
	}
}
