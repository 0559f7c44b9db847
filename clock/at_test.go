package clock_test

import (
	"math"
	"math/rand"
	"testing"

	"icehall/api"
	"icehall/clock"
)

// P9.2: the examples of the document, and the seconds around its events.
func TestAtExamples(t *testing.T) {
	three := penalties([]api.Penalty{minor(7, 120), minor(9, 120), minor(8, 120)}, nil)
	behind := api.Board{Played: 80, Goals: [2]int{0, 1}, Penalties: penalties([]api.Penalty{minor(9, 70), minor(8, 120)}, nil)}
	for second, want := range map[int]api.Board{
		0:              {},
		99:             {},
		100:            {Runs: true},
		101:            {Runs: true, Played: 1},
		129:            {Runs: true, Played: 29},
		130:            {Played: 30},
		139:            {Played: 30},
		140:            {Played: 30, Penalties: three},
		145:            {Played: 30, Penalties: three},
		150:            {Played: 30, Penalties: three, Runs: true},
		170:            {Played: 50, Runs: true, Penalties: penalties([]api.Penalty{minor(7, 100), minor(9, 100), minor(8, 120)}, nil)},
		199:            {Played: 79, Runs: true, Penalties: penalties([]api.Penalty{minor(7, 71), minor(9, 71), minor(8, 120)}, nil)},
		200:            behind,
		205:            behind,
		260:            {Played: 130, Goals: [2]int{0, 1}, Penalties: penalties([]api.Penalty{minor(9, 20), minor(8, 70)}, nil)},
		api.MaxSeconds: {Played: 130, Goals: [2]int{0, 1}, Penalties: penalties([]api.Penalty{minor(9, 20), minor(8, 70)}, nil)},
	} {
		if b := mustSee(t, example(), second); !same(b, want) {
			t.Errorf("at %d: %v, not %v", second, b, want)
		}
	}
}

// P9.2: time goes on behind the last event, until the period is over.
func TestAtBehindAll(t *testing.T) {
	l := []api.ClockEvent{give(api.ClockMajor, 10, 0, 3), give(api.ClockMinor, 10, 0, 3), start(20)}
	for second, want := range map[int]api.Board{
		20:             {Runs: true, Penalties: penalties([]api.Penalty{major(3, 300), minor(3, 120)}, nil)},
		319:            {Runs: true, Played: 299, Penalties: penalties([]api.Penalty{major(3, 1), minor(3, 120)}, nil)},
		320:            {Runs: true, Played: 300, Penalties: penalties([]api.Penalty{minor(3, 120)}, nil)},
		321:            {Runs: true, Played: 301, Penalties: penalties([]api.Penalty{minor(3, 119)}, nil)},
		440:            {Runs: true, Played: 420},
		1219:           {Runs: true, Played: 1199},
		1220:           {Played: 1200},
		1221:           {Played: 1200},
		api.MaxSeconds: {Played: 1200},
	} {
		if b := mustSee(t, l, second); !same(b, want) {
			t.Errorf("at %d: %v, not %v", second, b, want)
		}
	}
}

// P9.2, P9.3: the error of Play comes first, also that of an event behind the second; then the second is looked at.
func TestAtErrors(t *testing.T) {
	long := make([]api.ClockEvent, api.MaxClockEvents+1)
	for name, c := range map[string]struct {
		l      []api.ClockEvent
		second int
		e      api.Errno
	}{
		"the least second":              {example(), 0, api.OK},
		"the greatest second":           {example(), api.MaxSeconds, api.OK},
		"below 0":                       {example(), -1, api.ErrRange},
		"above MaxSeconds":              {example(), api.MaxSeconds + 1, api.ErrRange},
		"the least number":              {nil, math.MinInt, api.ErrRange},
		"the greatest number":           {nil, math.MaxInt, api.ErrRange},
		"not valid, and below 0":        {[]api.ClockEvent{{Kind: 7}}, -1, api.ErrArg},
		"not in order, and below 0":     {[]api.ClockEvent{start(5), stop(4)}, -1, api.ErrOrder},
		"too many, and below 0":         {long, -1, api.ErrLong},
		"too many":                      {long, 0, api.ErrLong},
		"not possible, and too great":   {[]api.ClockEvent{stop(5)}, api.MaxSeconds + 1, api.ErrState},
		"a start too many, too great":   {append(wholeGame(), start(3600)), api.MaxSeconds + 1, api.ErrFull},
		"not possible behind it":        {append(example(), goal(270, 0)), 150, api.ErrState},
		"not valid behind it":           {append(example(), goal(270, 2)), 150, api.ErrArg},
		"a start too many behind it":    {append(wholeGame(), start(3600)), 10, api.ErrFull},
		"no events, the least second":   {nil, 0, api.OK},
		"no events, the greatest there": {nil, api.MaxSeconds, api.OK},
	} {
		if b, e := clock.At(c.l, c.second); e != c.e || e != api.OK && !same(b, api.Board{}) {
			t.Errorf("%s: At %v, error %d, not %d", name, b, e, c.e)
		}
		if l, e := clock.Strengths(c.l, c.second); e != c.e || e != api.OK && len(l) > 0 {
			t.Errorf("%s: Strengths %v, error %d, not %d", name, l, e, c.e)
		}
	}
}

// P9.2: what is shown is what the words of the chapter show, in random seconds and at the events.
func TestAtByWords(t *testing.T) {
	rnd := rand.New(rand.NewSource(93))
	running := 0
	for range 1500 {
		l := anyGame(rnd, 1+rnd.Intn(40))
		last := 50
		if len(l) > 0 {
			last = l[len(l)-1].Second
		}
		for range 4 {
			second := rnd.Intn(last + 400)
			if len(l) > 0 && rnd.Intn(2) == 0 {
				second = max(0, l[rnd.Intn(len(l))].Second+rnd.Intn(3)-1)
			}
			want := seen(t, l, second).board()
			if b := mustSee(t, l, second); !same(b, want) {
				t.Fatalf("%v, at %d: %v, not %v", l, second, b, want)
			}
			if want.Runs {
				running++
			}
		}
	}
	if running < 1000 {
		t.Error("the clock ran only", running, "times")
	}
}
