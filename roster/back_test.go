package roster_test

import (
	"math"
	"math/rand"
	"slices"
	"testing"

	"icehall/api"
	"icehall/roster"
)

// P11.4: the document's examples, also the one that DOC.md names.
func TestBackExamples(t *testing.T) {
	if games, day := mustWait(t, example(), 9); games != 0 || day != 10 {
		t.Error(games, day)
	}
	if games, day := mustWait(t, example(), 7); games != 1 || day != 0 {
		t.Error(games, day)
	}
}

// P11.4: for how many games, and until which day.
func TestBack(t *testing.T) {
	two := []api.RosterEvent{join(3, 8, 1), join(3, 4, 1)}
	way := append([]api.RosterEvent{hurt(4, 8)}, passes(5, 8, 5)...)
	for name, c := range map[string]struct {
		more       []api.RosterEvent
		games, day int
	}{
		"well":                            {nil, 0, 0},
		"suspended":                       {[]api.RosterEvent{suspend(4, 8, 3)}, 3, 0},
		"suspended twice":                 {[]api.RosterEvent{suspend(4, 8, 20), suspend(5, 8, 20)}, 40, 0},
		"some games are served":           {[]api.RosterEvent{suspend(4, 8, 3), match(5, 1, 4), match(6, 1)}, 1, 0},
		"all games are served":            {[]api.RosterEvent{suspend(4, 8, 2), match(5, 1, 4), match(6, 1)}, 0, 0},
		"hurt":                            {way[:1], 0, 10},
		"one stage":                       {way[:2], 0, 10},
		"two stages":                      {way[:3], 0, 10},
		"three stages":                    {way[:4], 0, 10},
		"four stages":                     {way[:5], 0, 10},
		"all stages":                      {way, 0, 10},
		"a stage late":                    {[]api.RosterEvent{hurt(4, 8), pass(7, 8)}, 0, 12},
		"the last stage late":             {append(slices.Clone(way[:5]), pass(50, 8)), 0, 51},
		"a symptom":                       {append(slices.Clone(way), symptom(9, 8)), 0, 15},
		"hurt again":                      {append(slices.Clone(way), hurt(9, 8)), 0, 15},
		"cleared":                         {append(slices.Clone(way), clearing(10, 8)), 0, 0},
		"hurt behind being cleared":       {append(slices.Clone(way), clearing(10, 8), hurt(20, 8)), 0, 26},
		"both":                            {[]api.RosterEvent{suspend(4, 8, 3), hurt(4, 8)}, 3, 10},
		"events of others are later":      {[]api.RosterEvent{hurt(4, 8), hurt(30, 4)}, 0, 10},
		"of a day that is not any more":   {[]api.RosterEvent{hurt(api.MaxDay, 8)}, 0, api.MaxDay + 6},
		"of the last day that can be one": {[]api.RosterEvent{hurt(api.MaxDay-6, 8)}, 0, api.MaxDay},
	} {
		if games, day := mustWait(t, append(slices.Clone(two), c.more...), 8); games != c.games || day != c.day {
			t.Errorf("%s: %d, %d, not %d, %d", name, games, day, c.games, c.day)
		}
	}
	if games, day := mustWait(t, []api.RosterEvent{join(0, 0, 0), hurt(0, 0)}, 0); games != 0 || day != 6 {
		t.Error("hurt on the first day:", games, day)
	}
}

// P11.4: the errors, in their order.
func TestBackErrors(t *testing.T) {
	for _, c := range []struct {
		l      []api.RosterEvent
		person int
		e      api.Errno
	}{
		{append(example(), pass(5, 9)), 7, api.ErrRefuse},
		{append(example(), pass(5, 9)), 6, api.ErrRefuse},
		{append(example(), symptom(5, 5)), -1, api.ErrState},
		{make([]api.RosterEvent, 257), 0, api.ErrLong},
		{[]api.RosterEvent{{Kind: 7}}, 0, api.ErrArg},
		{nil, 0, api.ErrNone},
		{example(), 0, api.ErrNone},
		{example(), 6, api.ErrNone},
		{example(), -1, api.ErrNone},
		{example(), math.MinInt, api.ErrNone},
		{example(), api.MaxPerson + 1, api.ErrNone},
		{example(), math.MaxInt, api.ErrNone},
	} {
		if games, day, e := roster.Back(c.l, c.person); games != 0 || day != 0 || e != c.e {
			t.Errorf("Back of %d: %d, %d, error %d, not %d", c.person, games, day, e, c.e)
		}
	}
}

// P11.4: the way back is the one of the words of the chapter.
func TestBackByWords(t *testing.T) {
	rnd := rand.New(rand.NewSource(115))
	seen := map[int]int{}
	for range 1500 {
		l := anySeason(rnd, 1+rnd.Intn(60))
		for person := range 12 {
			m, ok := history(l).member(person)
			if !ok {
				if _, _, e := roster.Back(l, person); e != api.ErrNone {
					t.Fatalf("%v: %d has the error %d", l, person, e)
				}
				continue
			}
			day := 0
			if m.Stage > 0 {
				day = m.Since + 1
				for range 6 - m.Stage {
					day++
				}
			}
			if g, d := mustWait(t, l, person); g != m.Ban || d != day {
				t.Fatalf("%v: %d: %d, %d, not %d, %d", l, person, g, d, m.Ban, day)
			}
			seen[m.Stage]++
		}
	}
	for stage := range 7 {
		if seen[stage] < 100 {
			t.Errorf("stage %d: only %d times", stage, seen[stage])
		}
	}
}
