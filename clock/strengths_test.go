package clock_test

import (
	"math/rand"
	"slices"
	"testing"

	"icehall/api"
	"icehall/clock"
)

// from returns the strengths from a second on.
func from(second, zero, one int) api.Strength {
	return api.Strength{Second: second, Players: [2]int{zero, one}}
}

// P9.3: the examples of the document, and what is special.
func TestStrengths(t *testing.T) {
	const a, d, m, x = api.ClockMinor, api.ClockDouble, api.ClockMajor, api.ClockMisconduct
	early := []api.ClockEvent{give(a, 0, 0, 7), give(m, 0, 1, 7), give(a, 0, 1, 8), start(5)}
	instead := []api.ClockEvent{give(a, 0, 0, 7), start(0), goal(20, 1), give(a, 20, 0, 8), start(30), stop(60)}
	for name, c := range map[string]struct {
		l      []api.ClockEvent
		second int
		want   []api.Strength
	}{
		"the example at 260":                 {example(), 260, []api.Strength{from(0, 5, 5), from(30, 3, 5)}},
		"the example at 90":                  {example(), 90, nil},
		"the example, as the clock starts":   {example(), 100, nil},
		"one second played":                  {example(), 101, []api.Strength{from(0, 5, 5)}},
		"given, but not served yet":          {example(), 150, []api.Strength{from(0, 5, 5)}},
		"served for one second":              {example(), 151, []api.Strength{from(0, 5, 5), from(30, 3, 5)}},
		"a goal is not seen ahead":           {example(), 199, []api.Strength{from(0, 5, 5), from(30, 3, 5)}},
		"no goal, until all are back":        {example()[:6], 500, []api.Strength{from(0, 5, 5), from(30, 3, 5), from(150, 4, 5), from(270, 5, 5)}},
		"the last second of two":             {example()[:6], 270, []api.Strength{from(0, 5, 5), from(30, 3, 5)}},
		"the first second of one":            {example()[:6], 271, []api.Strength{from(0, 5, 5), from(30, 3, 5), from(150, 4, 5)}},
		"short from the second 0 on":         {early, 400, []api.Strength{from(0, 4, 3), from(120, 5, 4), from(300, 5, 5)}},
		"short, but nothing played":          {early, 5, nil},
		"one ends, another one begins":       {instead, 60, []api.Strength{from(0, 4, 5)}},
		"until the period is over":           {early, api.MaxSeconds, []api.Strength{from(0, 4, 3), from(120, 5, 4), from(300, 5, 5)}},
		"a misconduct makes no difference":   {[]api.ClockEvent{give(x, 0, 0, 1), start(0), stop(9)}, 9, []api.Strength{from(0, 5, 5)}},
		"a double one":                       {[]api.ClockEvent{give(d, 0, 1, 1), start(0), stop(600)}, 600, []api.Strength{from(0, 5, 4), from(240, 5, 5)}},
		"in the second period":               {[]api.ClockEvent{start(0), give(a, 1300, 1, 1), start(1400)}, 1600, []api.Strength{from(0, 5, 5), from(1200, 5, 4), from(1320, 5, 5)}},
		"through the end of a period":        {[]api.ClockEvent{start(0), stop(1170), give(a, 1170, 1, 1), start(1170), start(1300)}, 1600, []api.Strength{from(0, 5, 5), from(1170, 5, 4), from(1290, 5, 5)}},
		"in the last second of the game":     {append(wholeGame(), stop(3599), give(a, 3599, 0, 1), start(3599)), 4000, []api.Strength{from(0, 5, 5), from(3599, 4, 5)}},
		"given behind the last second":       {append(wholeGame(), give(a, 3600, 0, 1)), 4000, []api.Strength{from(0, 5, 5)}},
		"no events":                          {nil, api.MaxSeconds, nil},
		"a penalty that a goal ends at once": {[]api.ClockEvent{start(0), stop(9), give(a, 9, 0, 1), start(9), goal(9, 1), start(9), stop(20)}, 20, []api.Strength{from(0, 5, 5)}},
	} {
		if l, e := clock.Strengths(c.l, c.second); !slices.Equal(l, c.want) || e != api.OK {
			t.Errorf("%s: %v, error %d, not %v", name, l, e, c.want)
		}
	}
}

// P9.3: the strengths are those that the words of the chapter give, second by second.
func TestStrengthsByWords(t *testing.T) {
	rnd := rand.New(rand.NewSource(94))
	changes := 0
	for range 1500 {
		l := anyGame(rnd, 1+rnd.Intn(150))
		second := rnd.Intn(6000)
		if len(l) > 0 && rnd.Intn(3) == 0 {
			second = l[rnd.Intn(len(l))].Second
		}
		want := seen(t, l, second).changes()
		if s := mustHave(t, l, second); !slices.Equal(s, want) {
			t.Fatalf("%v until %d: %v, not %v", l, second, s, want)
		}
		changes += len(want)
	}
	if changes < 5000 {
		t.Error("too few changes", changes)
	}
}
