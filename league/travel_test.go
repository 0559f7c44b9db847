package league_test

import (
	"math/rand"
	"testing"

	"icehall/api"
	"icehall/league"
)

// P10.2: the examples of the document.
func TestTravelExamples(t *testing.T) {
	for team, want := range []int{60, 20, 50} {
		if n, e := league.Travel(example(), team); n != want || e != api.OK {
			t.Errorf("%d: %d, error %d, not %d", team, n, e, want)
		}
	}
}

// P10.2: the way from hall to hall, where each number of Far is another one.
func TestTravelWays(t *testing.T) {
	far := [][]int{{1, 10, 100}, {1000, 3, 10000}, {20000, 50000, 5}}
	for name, c := range map[string]struct {
		games []api.Game
		team  int
		want  int
	}{
		"no game: from the hall to the hall": {nil, 1, 3},
		"not its game":                       {[]api.Game{open(1, 0, 2)}, 1, 3},
		"at home: twice from hall to hall":   {[]api.Game{open(1, 0, 1)}, 0, 2},
		"away, there and back":               {[]api.Game{open(1, 0, 1)}, 1, 1010},
		"two in one hall":                    {[]api.Game{open(1, 0, 1), open(2, 0, 1)}, 1, 1011},
		"not over the own hall":              {[]api.Game{open(1, 0, 1), open(2, 2, 1)}, 1, 1000 + 100 + 50000},
		"in the order of the list":           {[]api.Game{open(2, 2, 1), open(1, 0, 1)}, 1, 10000 + 20000 + 10},
		"games of others between":            {[]api.Game{open(1, 0, 1), open(2, 0, 2), open(3, 2, 1)}, 1, 1000 + 100 + 50000},
		"games that are played count":        {[]api.Game{regular(1, 0, 1, 1, 0), late(2, 1, 2, 1, 0)}, 1, 1000 + 10 + 3},
	} {
		if n, e := league.Travel(api.League{Far: far, Games: c.games}, c.team); n != c.want || e != api.OK {
			t.Errorf("%s: %d, error %d, not %d", name, n, e, c.want)
		}
	}
}

// P10.2: ErrRange unless the team is the index of one.
func TestTravelErrors(t *testing.T) {
	for _, team := range odd {
		n, e := league.Travel(example(), team)
		if team < 0 || team > 2 {
			if n != 0 || e != api.ErrRange {
				t.Errorf("%d: %d, error %d", team, n, e)
			}
		} else if e != api.OK {
			t.Errorf("%d: error %d", team, e)
		}
		if n, e := league.Travel(api.League{}, team); n != 0 || e != api.ErrRange {
			t.Errorf("no teams, %d: %d, error %d", team, n, e)
		}
		if n, e := league.Travel(of(1, open(0, 0, 0)), team); n != 0 || e != api.ErrArg {
			t.Errorf("not valid, %d: %d, error %d", team, n, e)
		}
	}
}

// P10.2: random ways.
func TestTravelByWords(t *testing.T) {
	rnd := rand.New(rand.NewSource(1002))
	for range 3000 {
		l := anyLeague(rnd, 12, 8)
		for team := range l.Far {
			if n, e := league.Travel(l, team); n != travelBy(l, team) || e != api.OK {
				t.Fatalf("%v, %d: %d, error %d, not %d", l, team, n, e, travelBy(l, team))
			}
		}
	}
}

// P10.2: the longest way.
func TestLongestWay(t *testing.T) {
	l := of(2)
	for i := range 2 {
		l.Far[i] = []int{api.MaxFar, api.MaxFar}
	}
	for i := range api.MaxGames {
		l.Games = append(l.Games, regular(i, i%2, 1-i%2, 1, 0))
	}
	if n, e := league.Travel(l, 0); n != (api.MaxGames+1)*api.MaxFar || e != api.OK {
		t.Error(n, e)
	}
}
