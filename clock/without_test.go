package clock_test

import (
	"math"
	"math/rand"
	"slices"
	"testing"

	"icehall/api"
	"icehall/clock"
)

// P9.5: the example of the document.
func TestWithoutExample(t *testing.T) {
	want := api.Board{Played: 130, Penalties: penalties([]api.Penalty{minor(7, 20), minor(9, 20), minor(8, 120)}, nil)}
	if b, e := clock.Without(example(), 6); !same(b, want) || e != api.OK {
		t.Error(b, e)
	}
}

// P9.5: the error of Play comes first, then the index, then its event.
func TestWithoutErrors(t *testing.T) {
	all := append(example(), give(api.ClockDouble, 260, 0, 1), give(api.ClockMajor, 260, 1, 1), give(api.ClockMisconduct, 260, 1, 1), start(270))
	goals := append(wholeGame()[:1], goal(3, 0), start(3), goal(9, 1))
	for name, c := range map[string]struct {
		l     []api.ClockEvent
		index int
		e     api.Errno
	}{
		"a goal":                      {all, 6, api.OK},
		"the last event":              {goals, 3, api.OK},
		"below 0":                     {all, -1, api.ErrRange},
		"the number of events":        {all, len(all), api.ErrRange},
		"the least number":            {all, math.MinInt, api.ErrRange},
		"the greatest number":         {all, math.MaxInt, api.ErrRange},
		"no events":                   {nil, 0, api.ErrRange},
		"not valid, and no index":     {[]api.ClockEvent{{Kind: 7}}, 9, api.ErrArg},
		"not in order, and no goal":   {[]api.ClockEvent{start(5), stop(4)}, 0, api.ErrOrder},
		"not possible behind a goal":  {append(slices.Clone(goals), stop(9)), 1, api.ErrState},
		"not possible, and no index":  {append(slices.Clone(goals), stop(9)), -1, api.ErrState},
		"a start too many, no index":  {append(wholeGame(), start(3600)), -1, api.ErrFull},
		"too many, and no index":      {make([]api.ClockEvent, api.MaxClockEvents+1), -1, api.ErrLong},
		"a goal that cannot be there": {append(slices.Clone(goals), goal(9, 1)), 4, api.ErrState},
	} {
		if b, e := clock.Without(c.l, c.index); e != c.e || e != api.OK && !same(b, api.Board{}) {
			t.Errorf("%s: %v, error %d, not %d", name, b, e, c.e)
		}
	}
	for i, v := range all {
		if b, e := clock.Without(all, i); v.Kind != api.ClockGoal && (e != api.ErrState || !same(b, api.Board{})) {
			t.Errorf("%v: %v, error %d", v, b, e)
		}
	}
}

// P9.5, P9.7: the events behind it happen as they did, but for the penalty that the goal did not end; a later goal can end it then.
func TestWithoutWhatFollows(t *testing.T) {
	l := []api.ClockEvent{give(api.ClockMinor, 0, 0, 7), start(0), goal(20, 1), start(20), goal(50, 1), start(60), stop(70)}
	for index, want := range map[int]api.Board{
		2: {Played: 60, Goals: [2]int{0, 1}},
		4: {Played: 60, Goals: [2]int{0, 1}},
	} {
		if b, e := clock.Without(l, index); !same(b, want) || e != api.OK {
			t.Error(index, b, e)
		}
	}
	l = append(l[:4], stop(50))
	if b, e := clock.Without(l, 2); !same(b, api.Board{Played: 50, Penalties: penalties([]api.Penalty{minor(7, 70)}, nil)}) || e != api.OK {
		t.Error(b, e)
	}
}

// P9.5, P9.7: each goal can be taken away, and leaves what a whistle leaves, as the words tell it.
func TestWithoutByWords(t *testing.T) {
	rnd := rand.New(rand.NewSource(96))
	goals, other := 0, 0
	for range 800 {
		l := anyGame(rnd, 1+rnd.Intn(150))
		now := mustPlay(t, l)
		for i, v := range l {
			if v.Kind != api.ClockGoal || rnd.Intn(3) > 0 {
				continue
			}
			whistle := slices.Clone(l)
			whistle[i] = stop(v.Second)
			want := told(t, whistle).board()
			b, e := clock.Without(l, i)
			if !same(b, want) || e != api.OK {
				t.Fatalf("%v without %d: %v, error %d, not %v", l, i, b, e, want)
			}
			if b.Goals[v.Team] != now.Goals[v.Team]-1 || b.Goals[1-v.Team] != now.Goals[1-v.Team] || b.Period != now.Period || b.Played != now.Played || b.Runs != now.Runs {
				t.Fatalf("%v without %d: %v, which was %v", l, i, b, now)
			}
			if goals++; !slices.Equal(b.Penalties[1-v.Team], now.Penalties[1-v.Team]) {
				other++
			}
		}
	}
	if goals < 1500 || other < 200 {
		t.Error("too few goals", goals, other)
	}
}
