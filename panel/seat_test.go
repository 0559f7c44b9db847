package panel_test

import (
	"math/rand"
	"slices"
	"testing"

	"icehall/api"
	"icehall/panel"
)

// P8.2: the examples of the document, and changes of them.
func TestSeat(t *testing.T) {
	for name, c := range map[string]struct {
		change func(x *api.Meeting)
		want   [][]int
	}{
		"the example":                     {func(x *api.Meeting) {}, [][]int{{0, 2}, {2, 3}}},
		"level 5 of the second":           {func(x *api.Meeting) { x.Contests[1].Level = 5 }, nil},
		"judge 2 once only":               {func(x *api.Meeting) { x.Judges[2].Most = 1 }, [][]int{{0, 3}, {2, 3}}},
		"judge 0 never":                   {func(x *api.Meeting) { x.Judges[0].Most = 0 }, [][]int{{1, 2}, {2, 3}}},
		"judges 2 and 3 once only":        {func(x *api.Meeting) { x.Judges[2].Most, x.Judges[3].Most = 1, 1 }, nil},
		"level 7 of the first":            {func(x *api.Meeting) { x.Contests[0].Level = 7 }, nil},
		"one seat of level 7":             {func(x *api.Meeting) { x.Contests[0].Level, x.Contests[0].Seats = 7, 1 }, [][]int{{1}, {2, 3}}},
		"three seats":                     {func(x *api.Meeting) { x.Contests[0].Seats = 3 }, [][]int{{0, 2, 3}, {2, 3}}},
		"three seats, but two clubs":      {func(x *api.Meeting) { x.Contests[0].Seats, x.Judges[3].Club = 3, 2 }, nil},
		"no seat in the first":            {func(x *api.Meeting) { x.Contests[0].Seats = 0 }, [][]int{{}, {2, 3}}},
		"no seat in the second":           {func(x *api.Meeting) { x.Contests[1].Seats = 0 }, [][]int{{0, 2}, {}}},
		"no seats, no judges":             {func(x *api.Meeting) { x.Judges, x.Contests = nil, make([]api.Contest, 2) }, [][]int{{}, {}}},
		"seats, no judges":                {func(x *api.Meeting) { x.Judges = nil }, nil},
		"a contest again: nobody is left": {func(x *api.Meeting) { x.Contests = slices.Repeat(x.Contests, 2) }, nil},
	} {
		x := meeting()
		c.change(&x)
		seating, e := panel.Seat(x)
		if c.want == nil && (e != api.ErrNone || seating != nil) {
			t.Errorf("%s: %v, error %d, not none", name, seating, e)
		}
		if c.want != nil && (e != api.OK || len(seating) != len(c.want) || compare(seating, c.want) != 0) {
			t.Errorf("%s: %v, error %d, not %v", name, seating, e, c.want)
		}
	}
}

// P8.2: without contests, the seating without lists is good.
func TestSeatWithoutContests(t *testing.T) {
	for _, x := range []api.Meeting{{}, {Judges: meeting().Judges}} {
		if seating, e := panel.Seat(x); e != api.OK || len(seating) != 0 {
			t.Errorf("%v: %v, error %d", x, seating, e)
		}
	}
}

// P8.2: an early contest leaves a judge to a later one that needs that judge.
func TestSeatLooksAhead(t *testing.T) {
	x := api.Meeting{Judges: []api.Judge{{Club: 1, Level: 9, Most: 1}, {Club: 2, Level: 1, Most: 1}, {Club: 3, Level: 2, Most: 1}, {Club: 4, Level: 3, Most: 1}}}
	for _, level := range []int{0, 1, 3, 9} {
		x.Contests = append(x.Contests, api.Contest{Level: level, Seats: 1})
	}
	if seating, e := panel.Seat(x); e != api.OK || compare(seating, [][]int{{1}, {2}, {3}, {0}}) != 0 {
		t.Error(seating, e)
	}
}

// P8.2: a meeting that is not valid is reported.
func TestSeatNotValid(t *testing.T) {
	for name, x := range badMeetings() {
		if seating, e := panel.Seat(x); seating != nil || e != api.ErrArg {
			t.Errorf("%s: %v, error %d", name, seating, e)
		}
	}
}

// P8.2: it is the first of all good seatings, if all of them are tried.
func TestSeatByTrial(t *testing.T) {
	rnd := rand.New(rand.NewSource(2))
	for _, size := range []struct{ judges, contests, times int }{{8, 2, 2000}, {6, 3, 2000}, {5, 4, 1000}, {7, 4, 20}} {
		seen := map[bool]int{}
		for range size.times {
			x := anyMeeting(rnd, size.judges, size.contests)
			want, found := seatBy(x)
			seating, e := panel.Seat(x)
			if found && (e != api.OK || compare(seating, want) != 0) || !found && (e != api.ErrNone || len(seating) > 0) {
				t.Fatalf("%v: %v, error %d, not %v", x, seating, e, want)
			}
			if len(x.Judges) > 2 && len(x.Contests) > 1 {
				seen[found]++
			}
		}
		if min(seen[true], seen[false]) < size.times/8 {
			t.Error("too few meetings with a seating, or without one", size, seen)
		}
	}
}

// P1, P8.2: as many judges, contests and seats as there can be, with and without a seating.
func TestGreatestMeetings(t *testing.T) {
	var x api.Meeting
	for i := range api.MaxJudges {
		x.Judges = append(x.Judges, api.Judge{Club: i, Level: api.MaxLevel, Most: 2})
	}
	for range api.MaxContests {
		x.Contests = append(x.Contests, api.Contest{Clubs: make([]int, 0), Level: api.MaxLevel, Seats: api.MaxSeats})
	}
	if seating, e := panel.Seat(x); e != api.OK || compare(seating, [][]int{{0, 1, 2}, {0, 1, 2}, {3, 4, 5}, {3, 4, 5}}) != 0 {
		t.Error(seating, e)
	}
	x.Judges[0].Most, x.Judges[1].Most, x.Judges[2].Most, x.Judges[3].Most, x.Judges[4].Most = 1, 1, 1, 1, 1
	if seating, e := panel.Seat(x); e != api.ErrNone {
		t.Error("eleven times for twelve seats:", seating, e)
	}
	for i := range x.Judges {
		x.Judges[i].Most = api.MaxContests
	}
	x.Contests[3].Clubs = []int{0, 1, 2, 3, 4, 5}
	if seating, e := panel.Seat(x); e != api.ErrNone {
		t.Error("two judges for the three seats of the last contest:", seating, e)
	}
}
