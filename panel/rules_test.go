package panel_test

import (
	"math/rand"
	"reflect"
	"slices"
	"testing"

	"icehall/api"
	"icehall/panel"
)

// R7: what is at the end of its range is valid.
func TestJustValid(t *testing.T) {
	for name, change := range map[string]func(x *api.Meeting){
		"clubs 0 and 255":        func(x *api.Meeting) { x.Judges[2].Club, x.Judges[3].Club = 0, api.MaxClub },
		"levels 0 and 9":         func(x *api.Meeting) { x.Judges[1].Level, x.Judges[2].Level = 0, api.MaxLevel },
		"most 0 and 4":           func(x *api.Meeting) { x.Judges[1].Most, x.Judges[2].Most = 0, api.MaxContests },
		"eight judges":           func(x *api.Meeting) { x.Judges = slices.Repeat(x.Judges, 2) },
		"four contests":          func(x *api.Meeting) { x.Contests = append(x.Contests, make([]api.Contest, 2)...) },
		"16 clubs":               func(x *api.Meeting) { x.Contests[0].Clubs = slices.Repeat([]int{9}, api.MaxTaking) },
		"taking clubs 0 and 255": func(x *api.Meeting) { x.Contests[0].Clubs = []int{0, api.MaxClub} },
		"contest levels 0 and 9": func(x *api.Meeting) {
			x.Contests[0].Level = 0
			x.Judges[2].Level = 9
			x.Judges[3].Level = 9
			x.Contests[1].Level = 9
		},
		"no seats, and the most": func(x *api.Meeting) { x.Contests[1].Seats, x.Contests[0].Seats = 0, api.MaxSeats },
		"no contests":            func(x *api.Meeting) { x.Contests = nil },
	} {
		x := meeting()
		change(&x)
		seating, e := panel.Seat(x)
		if want, found := seatBy(x); !found || e != api.OK || compare(seating, want) != 0 {
			t.Errorf("%s: %v, error %d, not %v", name, seating, e, want)
		}
		if n, e := panel.Check(x, seating); n != len(x.Contests) || e != api.OK {
			t.Errorf("%s: %d, error %d", name, n, e)
		}
	}
	for name, m := range map[string]api.Marks{
		"40 skaters and 8 judges":  anyMarks(rand.New(rand.NewSource(20)), api.MaxSkaters, api.MaxJudges),
		"clubs and marks: the end": {Skaters: []int{0, api.MaxClub}, Judges: []int{0, api.MaxClub}, Marks: [][]int{{0, api.MaxMark}, {api.MaxMark, 0}}},
		"judges without skaters":   {Judges: make([]int, api.MaxJudges)},
		"skaters without judges":   {Skaters: make([]int, api.MaxSkaters), Marks: make([][]int, api.MaxSkaters)},
	} {
		for _, limit := range []int{0, api.MaxMark} {
			if _, e := panel.Biased(m, limit); e != api.OK {
				t.Errorf("%s: error %d", name, e)
			}
		}
		for judge := range m.Judges {
			if _, e := panel.Bias(m, judge); e != api.OK && e != api.ErrNone {
				t.Errorf("%s: error %d", name, e)
			}
		}
	}
	mustReview(t, 0, make([]int, api.MaxVotes))
	mustReview(t, api.MaxCall, []int{api.MaxCall})
	mustAppeal(t, make([]int, api.MaxCalls), nil, api.MaxFee)
	mustAppeal(t, []int{0, api.MaxCall}, []api.Appeal{{Element: 0, Votes: []int{api.MaxCall}}, {Element: 1, Votes: make([]int, api.MaxVotes)}}, 0)
}

// R3: nil and empty lists are the same.
func TestNilAndEmpty(t *testing.T) {
	empty := api.Meeting{Judges: []api.Judge{}, Contests: []api.Contest{}}
	for _, x := range []api.Meeting{{}, empty} {
		for _, seating := range [][][]int{nil, {}} {
			if n, e := panel.Check(x, seating); n != 0 || e != api.OK {
				t.Error(n, e)
			}
		}
	}
	x := meeting()
	x.Contests = []api.Contest{{Seats: 0}, {Clubs: []int{}, Seats: 0}}
	if n, e := panel.Check(x, [][]int{nil, {}}); n != 2 || e != api.OK {
		t.Error(n, e)
	}
	for _, m := range []api.Marks{{}, {Skaters: []int{}, Judges: []int{}, Marks: [][]int{}}} {
		if l, e := panel.Biased(m, 0); len(l) > 0 || e != api.OK {
			t.Error(l, e)
		}
		if _, e := panel.Bias(m, 0); e != api.ErrRange {
			t.Error(e)
		}
	}
	for _, row := range [][]int{nil, {}} {
		if l, e := panel.Biased(api.Marks{Skaters: []int{1}, Marks: [][]int{row}}, 0); len(l) > 0 || e != api.OK {
			t.Error(l, e)
		}
	}
	mustAppeal(t, []int{}, nil, 0)
	mustAppeal(t, nil, []api.Appeal{}, 0)
}

// P8.7, R4: no argument is changed, with an error or without one.
func TestArgumentsStay(t *testing.T) {
	rnd := rand.New(rand.NewSource(15))
	for range 500 {
		x := anyMeeting(rnd, api.MaxJudges, api.MaxContests)
		seating, m := anySeating(rnd, x), anyMarks(rnd, rnd.Intn(9), rnd.Intn(5))
		calls, l := anyAppeals(rnd)
		if len(l) > 0 && rnd.Intn(2) == 0 {
			l = append(l, l[0])
		}
		meeting, seats, given := cloneMeeting(x), cloneRows(seating), cloneMarks(m)
		elements, appeals := slices.Clone(calls), cloneAppeals(l)
		panel.Check(x, seating)
		panel.Seat(x)
		panel.Bias(m, 0)
		panel.Biased(m, 0)
		panel.Appeals(calls, l, 7)
		for _, a := range l {
			panel.Review(3, a.Votes)
		}
		if !reflect.DeepEqual(x, meeting) || !reflect.DeepEqual(seating, seats) || !reflect.DeepEqual(m, given) ||
			!reflect.DeepEqual(calls, elements) || !reflect.DeepEqual(l, appeals) {
			t.Fatal("an argument was changed", x, seating, m, calls, l)
		}
	}
}

// P8.7, R4: results are new memory: a change of one is seen in no other one, nor in an argument.
func TestResultsAreNew(t *testing.T) {
	x := meeting()
	x.Contests = append(x.Contests, x.Contests[0], x.Contests[0])
	for i := range x.Judges {
		x.Judges[i].Most = api.MaxContests
	}
	calls, m := []int{3, 3}, marks()
	for range 2 {
		seating, e := panel.Seat(x)
		if e != api.OK || compare(seating, [][]int{{0, 2}, {2, 3}, {0, 2}, {0, 2}}) != 0 {
			t.Error(seating, e)
		}
		for i, list := range seating {
			for _, other := range seating[i+1:] {
				if !slices.Equal(other, []int{0, 2}) && !slices.Equal(other, []int{2, 3}) {
					t.Error("two lists share memory", seating)
				}
			}
			list = append(list, 77)
			list[0], list[1] = 77, 77
			seating[i] = list
		}
		l, _ := panel.Biased(m, 0)
		now, _ := mustAppeal(t, calls, nil, 0)
		if !slices.Equal(l, []int{0, 1}) || !slices.Equal(now, []int{3, 3}) {
			t.Error(l, now)
		}
		for _, list := range [][]int{l, now} {
			clear(list)
		}
	}
	if !slices.Equal(calls, []int{3, 3}) {
		t.Error("the calls were changed", calls)
	}
}

// P1, R2: whatever is given, each function ends without a panic, and returns nothing with an error.
func TestAnyArguments(t *testing.T) {
	rnd := rand.New(rand.NewSource(16))
	number := func() int { return odd[rnd.Intn(len(odd))] }
	seen := map[api.Errno]int{}
	for range 20000 {
		x, m := anyMeeting(rnd, 6, 3), anyMarks(rnd, rnd.Intn(6), rnd.Intn(5))
		seating, votes := anySeating(rnd, x), anyVotes(rnd)
		calls, l := anyAppeals(rnd)
		spoil(rnd, number, &x, seating, &m)
		if len(l) > 0 {
			switch rnd.Intn(4) {
			case 0:
				l[rnd.Intn(len(l))].Element = number()
			case 1:
				l[rnd.Intn(len(l))].Votes[0] = number()
			}
		}
		votes[0] = number()
		n, e := panel.Check(x, seating)
		seen[e]++
		if n < 0 || n > len(seating) || n > 0 && (e == api.ErrArg || e == api.ErrRange) {
			t.Fatal("Check", x, seating, n, e)
		}
		if l, e := panel.Seat(x); e != api.OK && len(l) > 0 || e == api.OK && len(l) != len(x.Contests) {
			t.Fatal("Seat", x, l, e)
		}
		if b, e := panel.Bias(m, number()); (e == api.OK) != (b.Den > 0) || e != api.OK && b != (api.Ratio{}) {
			t.Fatal("Bias", m, b, e)
		}
		if l, e := panel.Biased(m, number()); e != api.OK && len(l) > 0 || !slices.IsSorted(l) {
			t.Fatal("Biased", m, l, e)
		}
		if now, upheld, e := panel.Review(number(), votes); e != api.OK && (now != 0 || upheld) {
			t.Fatal("Review", votes, now, upheld, e)
		}
		now, kept, n, e := panel.Appeals(calls, l, number())
		seen[e]++
		if e != api.OK && (len(now) > 0 || kept != 0 || n < 0 || n >= max(1, len(l))) || e == api.OK && n != len(l) {
			t.Fatal("Appeals", calls, l, now, kept, n, e)
		}
	}
	if seen[api.OK] < 2000 || seen[api.ErrArg] < 2000 || seen[api.ErrRange] < 2000 {
		t.Error("too few arguments that are valid, or that are not", seen)
	}
}

// spoil changes something of a meeting, a seating and marks, or nothing.
func spoil(rnd *rand.Rand, number func() int, x *api.Meeting, seating [][]int, m *api.Marks) {
	if len(x.Judges) > 0 {
		switch j := &x.Judges[rnd.Intn(len(x.Judges))]; rnd.Intn(9) {
		case 0:
			j.Club = number()
		case 1:
			j.Level = number()
		case 2:
			j.Most = number()
		}
	}
	if len(x.Contests) > 0 {
		switch c := &x.Contests[rnd.Intn(len(x.Contests))]; rnd.Intn(9) {
		case 0:
			c.Level = number()
		case 1:
			c.Seats = number()
		case 2:
			c.Clubs = append(c.Clubs, number())
		}
	}
	for i, list := range seating {
		if rnd.Intn(8) == 0 {
			seating[i] = append(list, number())
		}
	}
	for i, row := range m.Marks {
		switch n := rnd.Intn(20); {
		case n == 0:
			m.Marks[i] = append(row, number())
		case n == 1 && len(row) > 0:
			row[0] = number()
		case n == 2:
			m.Skaters[i] = number()
		}
	}
}
