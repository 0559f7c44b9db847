package league_test

import (
	"math/rand"
	"testing"

	"icehall/api"
	"icehall/league"
)

// fault is in the place of what is needed, if there is no such number.
const fault = -1

// certain checks what is clinched by a team, and what it needs.
func certain(t *testing.T, l api.League, team, places int, in, out bool, need int) {
	t.Helper()
	if i, o, e := league.Clinched(l, team, places); i != in || o != out || e != api.OK {
		t.Errorf("%v, %d in the first %d: %v, %v, error %d, not %v, %v", l, team, places, i, o, e, in, out)
	}
	wanted := api.OK
	if need == fault {
		need, wanted = 0, api.ErrNone
	}
	if n, e := league.Needs(l, team, places); n != need || e != wanted {
		t.Errorf("%v, %d in the first %d: needs %d, error %d, not %d, error %d", l, team, places, n, e, need, wanted)
	}
}

// P10.4, P10.5: the examples of the document.
func TestCertainExamples(t *testing.T) {
	certain(t, example(), 0, 1, false, false, 4)
	certain(t, example(), 0, 3, true, false, 0)
	certain(t, example(), 2, 3, true, false, 0)
	certain(t, example(), 2, 2, false, false, 2)
	certain(t, example(), 1, 1, false, false, fault)
}

// P10.4: without open games there is one outcome; who has the same points as another one is neither in nor out.
func TestNothingOpen(t *testing.T) {
	l := of(4, regular(1, 0, 1, 1, 0), late(2, 2, 3, 1, 0), late(3, 1, 3, 1, 0)) // points: 3 2 2 2
	for places := 1; places <= 4; places++ {
		certain(t, l, 0, places, true, false, 0)
		for team := 1; team <= 3; team++ {
			in, out := places == 4, places == 1
			need := fault
			if in {
				need = 0
			}
			certain(t, l, team, places, in, out, need)
		}
	}
	// Goals tell nothing.
	even := of(2, regular(1, 0, 1, 9, 0), regular(2, 1, 0, 1, 0))
	certain(t, even, 0, 1, false, false, fault)
	certain(t, even, 1, 1, false, false, fault)
}

// P10.4, P10.5: one open game, with each lead that the home team can have.
func TestOneOpen(t *testing.T) {
	for lead, c := range []struct {
		homeIn, awayOut bool
		home, away      int
	}{
		0: {home: 2, away: 2},                         // a win of any kind
		1: {home: 2, away: 3},                         // behind a win of the away team in overtime both have the same
		2: {home: 1, away: 3},                         // a defeat in overtime is enough
		3: {home: 1, away: fault},                     // behind a defeat both have the same
		4: {homeIn: true, awayOut: true, away: fault}, // nothing can happen any more
	} {
		var games []api.Game
		for i := range lead {
			games = append(games, late(2*i, 0, 2, 1, 0), regular(2*i+1, 1, 3, 1, 0)) // 2 and 3 points
		}
		l := of(6, append(games, open(90, 1, 0))...) // the home team, 1, has so many points more
		certain(t, l, 1, 1, c.homeIn, false, c.home)
		certain(t, l, 0, 1, false, c.awayOut, c.away)
	}
}

// P10.5: what is needed is told of the points in the open games alone, and it has to be enough for each way to get them.
func TestNeedsOfAll(t *testing.T) {
	// The team 0 leads by 3; the others play each other once more.
	lead := of(3, regular(1, 0, 2, 1, 0), open(2, 0, 1), open(3, 1, 2))
	certain(t, lead, 0, 1, false, false, 2)
	certain(t, lead, 0, 2, false, false, 1)
	certain(t, lead, 2, 1, false, false, fault)
	// Six points are to be had: even all of them are not enough for the first place, as one rival can have as many; with less both can.
	behind := of(3, regular(1, 1, 2, 1, 0), regular(2, 2, 1, 1, 0), open(3, 0, 1), open(4, 0, 2), open(5, 1, 2))
	certain(t, behind, 0, 1, false, false, fault)
	certain(t, behind, 0, 2, false, false, 6)
	// Open games of others can put a team out, and in.
	certain(t, of(3, regular(1, 0, 1, 1, 0), open(2, 1, 2)), 0, 1, false, false, fault)
	certain(t, of(3, regular(1, 0, 1, 1, 0), late(2, 0, 1, 1, 0), open(3, 1, 2)), 0, 1, true, false, 0)
}

// P10.4: of two that play each other one will be ahead of a third team, though neither of them is so for sure.
func TestOutByEither(t *testing.T) {
	l := of(3, late(1, 0, 2, 1, 0), late(2, 1, 2, 1, 0), open(3, 0, 1)) // points: 2 2 2
	certain(t, l, 2, 1, false, true, fault)
	certain(t, l, 2, 2, false, false, fault)
	certain(t, l, 0, 2, false, false, 1)
}

// P10.4, P10.5: ErrArg first, then ErrRange unless there are such a team and so many places.
func TestCertainErrors(t *testing.T) {
	bad := example()
	bad.Games[4].Away = 1
	for _, team := range odd {
		for _, places := range odd {
			wanted := api.OK
			if team < 0 || team > 2 || places < 1 || places > 3 {
				wanted = api.ErrRange
			}
			in, out, e := league.Clinched(example(), team, places)
			if e != wanted || e != api.OK && (in || out) {
				t.Errorf("%d, %d: %v, %v, error %d", team, places, in, out, e)
			}
			n, e := league.Needs(example(), team, places)
			if wanted == api.ErrRange && e != wanted || wanted == api.OK && e != api.OK && e != api.ErrNone || e != api.OK && n != 0 {
				t.Errorf("%d, %d: %d, error %d", team, places, n, e)
			}
			if in, out, e := league.Clinched(bad, team, places); in || out || e != api.ErrArg {
				t.Errorf("%d, %d: %v, %v, error %d", team, places, in, out, e)
			}
			if n, e := league.Needs(bad, team, places); n != 0 || e != api.ErrArg {
				t.Errorf("%d, %d: %d, error %d", team, places, n, e)
			}
			if in, out, e := league.Clinched(api.League{}, team, places); in || out || e != api.ErrRange {
				t.Errorf("no teams, %d, %d: %v, %v, error %d", team, places, in, out, e)
			}
			if n, e := league.Needs(api.League{}, team, places); n != 0 || e != api.ErrRange {
				t.Errorf("no teams, %d, %d: %d, error %d", team, places, n, e)
			}
		}
	}
	certain(t, of(1), 0, 1, true, false, 0)
}

// P10.4, P10.5: random leagues, with each outcome one by one.
func TestCertainByWords(t *testing.T) {
	rnd := rand.New(rand.NewSource(1004))
	ins, outs, none := 0, 0, 0
	needed := map[int]int{}
	for range 600 {
		l := anyLeague(rnd, 16, 4)
		for team := range l.Far {
			in, out, needs := certainBy(l, team)
			for i := range l.Far {
				certain(t, l, team, i+1, in[i], out[i], needs[i])
				if in[i] {
					ins++
				}
				if out[i] {
					outs++
				}
				if needs[i] == fault {
					none++
				}
				needed[needs[i]]++
			}
		}
		if t.Failed() {
			t.FailNow()
		}
	}
	if ins < 1000 || outs < 500 || none < 1000 || needed[1] < 100 || needed[2] < 100 || needed[3] < 100 || needed[4] < 50 || needed[5] < 30 || needed[6] < 10 {
		t.Error("too few cases", ins, outs, none, needed)
	}
}

// P10.4, P10.5: eight open games, among as many teams as there can be, and of two teams alone.
func TestEightOpen(t *testing.T) {
	rnd := rand.New(rand.NewSource(1005))
	wide := of(6, regular(0, 0, 5, 1, 0), regular(0, 1, 4, 1, 0), late(1, 2, 3, 1, 0))
	for i := range api.MaxOpen {
		g := anyGame(rnd, 6, 2)
		wide.Games = append(wide.Games, open(i+1, g.Home, g.Away))
	}
	in, out, needs := certainBy(wide, 0)
	for i := range 6 {
		certain(t, wide, 0, i+1, in[i], out[i], needs[i])
	}
	two := of(2)
	for i := range api.MaxOpen {
		two.Games = append(two.Games, open(i, 0, 1))
	}
	certain(t, two, 0, 1, false, false, 13)
	certain(t, two, 1, 2, true, false, 0)
}
