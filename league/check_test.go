package league_test

import (
	"math/rand"
	"slices"
	"testing"

	"icehall/api"
	"icehall/league"
)

// P10.1: the examples of the document.
func TestCheckExamples(t *testing.T) {
	if n, e := league.Check(example()); n != 5 || e != api.OK {
		t.Error(n, e)
	}
	l := example()
	l.Games[1].Day = 1
	if n, e := league.Check(l); n != 1 || e != api.ErrTwice {
		t.Error(n, e)
	}
}

// P10.1: each error, with the index of its game.
func TestCheckErrors(t *testing.T) {
	for name, c := range map[string]struct {
		games []api.Game
		n     int
		e     api.Errno
	}{
		"no game":                             {nil, 0, api.OK},
		"one game":                            {[]api.Game{open(0, 0, 1)}, 1, api.OK},
		"four teams on a day":                 {[]api.Game{open(3, 0, 1), open(3, 2, 3)}, 2, api.OK},
		"six teams on a day":                  {[]api.Game{open(3, 0, 1), open(3, 2, 3), open(3, 4, 5)}, 3, api.OK},
		"the same teams on the next day":      {[]api.Game{regular(3, 0, 1, 1, 0), open(4, 0, 1)}, 2, api.OK},
		"a day less":                          {[]api.Game{regular(3, 0, 1, 1, 0), open(2, 2, 3)}, 1, api.ErrOrder},
		"less than ahead of it, not of all":   {[]api.Game{open(3, 0, 1), open(5, 2, 3), open(4, 4, 5)}, 2, api.ErrOrder},
		"home and home":                       {[]api.Game{open(3, 0, 1), open(3, 0, 2)}, 1, api.ErrTwice},
		"home and away":                       {[]api.Game{open(3, 0, 1), open(3, 2, 0)}, 1, api.ErrTwice},
		"away and home":                       {[]api.Game{open(3, 0, 1), open(3, 1, 2)}, 1, api.ErrTwice},
		"away and away":                       {[]api.Game{open(3, 0, 1), open(3, 2, 1)}, 1, api.ErrTwice},
		"the same game":                       {[]api.Game{open(3, 0, 1), open(3, 0, 1)}, 1, api.ErrTwice},
		"with another game between":           {[]api.Game{open(3, 0, 1), open(3, 2, 3), open(3, 4, 1)}, 2, api.ErrTwice},
		"a game that is played counts":        {[]api.Game{regular(3, 0, 1, 1, 0), late(3, 2, 3, 1, 0), late(3, 4, 1, 2, 1)}, 2, api.ErrTwice},
		"the day 0, and the last one":         {[]api.Game{open(0, 0, 1), open(api.MaxDay, 0, 1), open(api.MaxDay, 0, 2)}, 2, api.ErrTwice},
		"order is named ahead of twice":       {[]api.Game{open(2, 0, 1), open(3, 2, 3), open(2, 0, 1)}, 2, api.ErrOrder},
		"the first game decides: twice":       {[]api.Game{open(2, 0, 1), open(2, 1, 2), open(1, 4, 5)}, 1, api.ErrTwice},
		"the first game decides: order":       {[]api.Game{open(2, 0, 1), open(1, 2, 3), open(1, 2, 3)}, 1, api.ErrOrder},
		"a game that is not valid behind all": {[]api.Game{open(2, 0, 1), open(1, 2, 3), open(1, 2, 2)}, 0, api.ErrArg},
	} {
		if n, e := league.Check(of(6, c.games...)); n != c.n || e != c.e {
			t.Errorf("%s: %d, error %d, not %d, error %d", name, n, e, c.n, c.e)
		}
	}
}

// P10.1: random schedules, in their order or almost so.
func TestCheckByWords(t *testing.T) {
	rnd := rand.New(rand.NewSource(1001))
	seen := map[api.Errno]int{}
	for range 5000 {
		l := anyLeague(rnd, 5, 3)
		slices.SortFunc(l.Games, func(a, b api.Game) int { return a.Day - b.Day })
		if len(l.Games) > 0 && rnd.Intn(3) == 0 {
			l.Games[rnd.Intn(len(l.Games))].Day = rnd.Intn(20)
		}
		want, wanted := checkBy(l)
		seen[wanted]++
		if n, e := league.Check(l); n != want || e != wanted {
			t.Fatalf("%v: %d, error %d, not %d, error %d", l, n, e, want, wanted)
		}
	}
	if seen[api.OK] < 500 || seen[api.ErrOrder] < 500 || seen[api.ErrTwice] < 500 {
		t.Error("too few cases", seen)
	}
}
