package clock_test

import (
	"math"
	"math/rand"
	"slices"
	"testing"

	"icehall/api"
	"icehall/clock"
)

// wait returns after how many seconds nobody is missing any more, second by second.
func wait(l []api.Penalty) int {
	l = slices.Clone(l)
	for n := 0; ; n++ {
		if len(l) == 0 {
			return n
		}
		other := 0
		for i, p := range l {
			if p.Player != l[0].Player {
				other = i
				break
			}
		}
		l[0].Left--
		if other > 0 {
			l[other].Left--
		}
		var rest []api.Penalty
		for _, p := range l {
			if p.Left > 0 {
				rest = append(rest, p)
			}
		}
		l = rest
	}
}

// P9.4: the example of the document, and what hangs on whose the penalties are.
func TestWhole(t *testing.T) {
	b := mustPlay(t, example())
	if mustWait(t, b, 0) != 70 || mustWait(t, b, 1) != 0 {
		t.Error(mustWait(t, b, 0), mustWait(t, b, 1))
	}
	for name, c := range map[string]struct {
		l    []api.Penalty
		want int
	}{
		"none":                               {nil, 0},
		"the last second":                    {[]api.Penalty{minor(3, 1)}, 1},
		"the longest":                        {[]api.Penalty{major(3, api.MajorLength)}, 300},
		"two of two":                         {[]api.Penalty{minor(3, 20), minor(4, 70)}, 70},
		"two of one":                         {[]api.Penalty{minor(3, 20), minor(3, 70)}, 90},
		"three":                              {[]api.Penalty{minor(3, 20), minor(4, 70), minor(5, 100)}, 120},
		"three, the first one is the last":   {[]api.Penalty{minor(3, 120), minor(4, 20), minor(5, 70)}, 120},
		"two of one, and another one":        {[]api.Penalty{minor(3, 120), minor(4, 120), minor(3, 120)}, 240},
		"two of one ahead of another one":    {[]api.Penalty{minor(3, 20), minor(3, 70), minor(4, 10)}, 90},
		"two of one, the other one is later": {[]api.Penalty{minor(3, 20), minor(3, 30), minor(4, 110)}, 110},
		"256 of one":                         {slices.Repeat([]api.Penalty{major(0, 300)}, 256), 256 * 300},
		"256 of two":                         {slices.Repeat([]api.Penalty{major(0, 300), minor(4095, 300)}, 128), 128 * 300},
	} {
		for team := range 2 {
			b := api.Board{}
			b.Penalties[team] = c.l
			if n, e := clock.Whole(b, team); n != c.want || e != api.OK {
				t.Errorf("%s, team %d: %d, error %d, not %d", name, team, n, e, c.want)
			}
			if n, e := clock.Whole(b, 1-team); n != 0 || e != api.OK {
				t.Errorf("%s, the other team: %d, error %d", name, n, e)
			}
		}
	}
}

// P9.4: the penalties of both teams have to be valid, whichever team is asked for, ahead of the team.
func TestWholeErrors(t *testing.T) {
	good := []api.Penalty{minor(3, 20), major(4, 70)}
	for name, l := range map[string][]api.Penalty{
		"257":                        slices.Repeat([]api.Penalty{minor(1, 1)}, 257),
		"a player below 0":           {minor(3, 20), minor(-1, 20)},
		"a player above MaxPerson":   {minor(api.MaxPerson+1, 20)},
		"nothing left":               {minor(3, 20), minor(4, 0)},
		"less than nothing left":     {minor(3, -1)},
		"more than MajorLength left": {major(3, api.MajorLength+1)},
		"the greatest numbers":       {minor(math.MaxInt, 20), minor(3, math.MaxInt)},
		"the least numbers":          {minor(3, math.MinInt), minor(math.MinInt, 3)},
	} {
		for _, lists := range [][2][]api.Penalty{{l, good}, {good, l}, {l, nil}, {nil, l}, {l, l}} {
			for _, team := range []int{0, 1, 2, -1} {
				if n, e := clock.Whole(api.Board{Penalties: lists}, team); n != 0 || e != api.ErrArg {
					t.Errorf("%s, team %d: %d, error %d", name, team, n, e)
				}
			}
		}
	}
	for _, team := range []int{math.MinInt, -1, 2, math.MaxInt} {
		for _, b := range []api.Board{{}, {Penalties: penalties(good, good)}} {
			if n, e := clock.Whole(b, team); n != 0 || e != api.ErrRange {
				t.Errorf("team %d: %d, error %d", team, n, e)
			}
		}
	}
}

// P9.4: nothing else of a board is looked at.
func TestWholeElse(t *testing.T) {
	b := api.Board{Period: math.MinInt, Played: math.MaxInt, Runs: true, Goals: [2]int{-1, math.MaxInt}}
	b.Penalties = penalties([]api.Penalty{{Player: 3, Kind: 99, Left: 300}, {Player: 4, Kind: math.MinInt, Left: 7}}, []api.Penalty{{Player: 1, Kind: -1, Left: 1}})
	b.Misconducts = penalties(slices.Repeat([]api.Penalty{{Player: -1, Left: -1}}, 300), []api.Penalty{misconduct(3, 600)})
	if mustWait(t, b, 0) != 300 || mustWait(t, b, 1) != 1 {
		t.Error(mustWait(t, b, 0), mustWait(t, b, 1))
	}
}

// P9.4: random penalties, second by second.
func TestWholeByWords(t *testing.T) {
	rnd := rand.New(rand.NewSource(95))
	for range 3000 {
		b, players := api.Board{}, 1+rnd.Intn(5)
		for team := range 2 {
			for range rnd.Intn(9) {
				b.Penalties[team] = append(b.Penalties[team], api.Penalty{Player: rnd.Intn(players), Kind: rnd.Intn(7), Left: 1 + rnd.Intn(api.MajorLength)})
			}
		}
		for team := range 2 {
			if n := mustWait(t, b, team); n != wait(b.Penalties[team]) {
				t.Fatalf("%v, team %d: %d, not %d", b, team, n, wait(b.Penalties[team]))
			}
		}
	}
}
