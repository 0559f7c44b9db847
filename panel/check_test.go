package panel_test

import (
	"math"
	"math/rand"
	"testing"

	"icehall/api"
	"icehall/panel"
)

// P8.1: the examples of the document, and each error by itself.
func TestCheck(t *testing.T) {
	for name, c := range map[string]struct {
		seating [][]int
		contest int
		e       api.Errno
	}{
		"good":                          {[][]int{{0, 2}, {2, 3}}, 2, api.OK},
		"good, but not the first":       {[][]int{{1, 3}, {2, 3}}, 2, api.OK},
		"two of a club":                 {[][]int{{0, 1}, {2, 3}}, 0, api.ErrTwice},
		"a judge of the own club":       {[][]int{{0, 2}, {0, 3}}, 1, api.ErrRefuse},
		"too few judges":                {[][]int{{2, 3}, {2}}, 1, api.ErrShort},
		"too many judges":               {[][]int{{0, 2, 3}, {2, 3}}, 0, api.ErrShort},
		"no judges":                     {[][]int{{}, {2, 3}}, 0, api.ErrShort},
		"not rising":                    {[][]int{{0, 2}, {3, 2}}, 1, api.ErrOrder},
		"the same judge twice":          {[][]int{{2, 2}, {2, 3}}, 0, api.ErrOrder},
		"no list":                       {nil, 0, api.ErrRange},
		"a list missing":                {[][]int{{0, 2}}, 0, api.ErrRange},
		"a list too many":               {[][]int{{0, 2}, {2, 3}, {}}, 0, api.ErrRange},
		"no such judge":                 {[][]int{{0, 4}, {2, 3}}, 0, api.ErrRange},
		"a judge below 0":               {[][]int{{-1, 2}, {2, 3}}, 0, api.ErrRange},
		"no such judge, later":          {[][]int{{0, 2}, {2, 4}}, 0, api.ErrRange},
		"the least and greatest judges": {[][]int{{math.MinInt}, {math.MaxInt}}, 0, api.ErrRange},
	} {
		if contest, e := panel.Check(meeting(), c.seating); contest != c.contest || e != c.e {
			t.Errorf("%s: %d, error %d, not %d, error %d", name, contest, e, c.contest, c.e)
		}
	}
}

// P8.1: of several errors, that of the first contest counts, and of its errors the one named first; but all numbers are looked at ahead of it.
func TestCheckOrder(t *testing.T) {
	for name, c := range map[string]struct {
		seating [][]int
		contest int
		e       api.Errno
	}{
		"no judge ahead of not rising":    {[][]int{{3, 2}, {2, 4}}, 0, api.ErrRange},
		"a list missing ahead of all":     {[][]int{{3, 2, 2}}, 0, api.ErrRange},
		"not rising ahead of too many":    {[][]int{{0, 2}, {2, 3, 3}}, 1, api.ErrOrder},
		"too many ahead of the own club":  {[][]int{{0, 2}, {0, 2, 3}}, 1, api.ErrShort},
		"too few ahead of the own club":   {[][]int{{0, 2}, {1}}, 1, api.ErrShort},
		"the own club ahead of two of it": {[][]int{{0, 2}, {0, 1}}, 1, api.ErrRefuse},
		"two of a club, then not rising":  {[][]int{{0, 1}, {3, 2}}, 0, api.ErrTwice},
		"too few, then the own club":      {[][]int{{2}, {0, 3}}, 0, api.ErrShort},
	} {
		if contest, e := panel.Check(meeting(), c.seating); contest != c.contest || e != c.e {
			t.Errorf("%s: %d, error %d, not %d, error %d", name, contest, e, c.contest, c.e)
		}
	}
	x := meeting()
	x.Contests[1].Clubs, x.Judges[0].Most = nil, 0
	if contest, e := panel.Check(x, [][]int{{0, 1}, {2, 3}}); contest != 0 || e != api.ErrTwice {
		t.Error("two of a club ahead of too often:", contest, e)
	}
	x.Contests[0].Level = 6
	if contest, e := panel.Check(x, [][]int{{0, 2}, {2, 3}}); contest != 0 || e != api.ErrRefuse {
		t.Error("a level ahead of too often:", contest, e)
	}
}

// P8.1: a judge is too often in lists from the first contest on in which there are more than Most.
func TestTooOften(t *testing.T) {
	for most, want := range []int{0, 1, 2, 3, 4} {
		x := api.Meeting{Judges: []api.Judge{{Club: 1, Most: 4}, {Club: 2, Most: most}}}
		x.Contests = []api.Contest{{Seats: 2}, {Seats: 2}, {Seats: 2}, {Seats: 2}}
		e := api.ErrLimit
		if most == 4 {
			e = api.OK
		}
		if contest, f := panel.Check(x, [][]int{{0, 1}, {0, 1}, {0, 1}, {0, 1}}); contest != want || f != e {
			t.Errorf("at most %d: %d, error %d", most, contest, f)
		}
	}
	x := api.Meeting{Judges: []api.Judge{{Most: 1}, {Most: 1}}, Contests: []api.Contest{{Seats: 1}, {Seats: 1}, {Seats: 1}}}
	if contest, e := panel.Check(x, [][]int{{0}, {1}, {0}}); contest != 2 || e != api.ErrLimit {
		t.Error("a contest in between:", contest, e)
	}
}

// P8.1: a judge of just the level may judge; one below it may not, nor one of a club that takes part.
func TestWhoMayJudge(t *testing.T) {
	for name, c := range map[string]struct {
		judge   api.Judge
		contest api.Contest
		e       api.Errno
	}{
		"just the level":     {api.Judge{Club: 7, Level: 5, Most: 1}, api.Contest{Clubs: []int{1, 2}, Level: 5, Seats: 1}, api.OK},
		"a level above":      {api.Judge{Club: 7, Level: 6, Most: 1}, api.Contest{Clubs: []int{1, 2}, Level: 5, Seats: 1}, api.OK},
		"a level below":      {api.Judge{Club: 7, Level: 4, Most: 1}, api.Contest{Clubs: []int{1, 2}, Level: 5, Seats: 1}, api.ErrRefuse},
		"the first club":     {api.Judge{Club: 1, Level: 9, Most: 1}, api.Contest{Clubs: []int{1, 2}, Seats: 1}, api.ErrRefuse},
		"the last club":      {api.Judge{Club: 2, Level: 9, Most: 1}, api.Contest{Clubs: []int{1, 0, 2}, Seats: 1}, api.ErrRefuse},
		"no club takes part": {api.Judge{Most: 1}, api.Contest{Seats: 1}, api.OK},
	} {
		x := api.Meeting{Judges: []api.Judge{c.judge}, Contests: []api.Contest{c.contest}}
		if _, e := panel.Check(x, [][]int{{0}}); e != c.e {
			t.Errorf("%s: error %d", name, e)
		}
		want := api.OK
		if c.e != api.OK {
			want = api.ErrNone
		}
		if _, e := panel.Seat(x); e != want {
			t.Errorf("%s: Seat has the error %d", name, e)
		}
	}
}

// P8.1: a meeting that is not valid comes ahead of all that is wrong with the seating.
func TestCheckNotValid(t *testing.T) {
	for name, x := range badMeetings() {
		for _, seating := range [][][]int{nil, {{0, 2}, {2, 3}}, {{99}}} {
			if contest, e := panel.Check(x, seating); contest != 0 || e != api.ErrArg {
				t.Errorf("%s: %d, error %d", name, contest, e)
			}
		}
	}
}

// P8.1: random seatings have the errors that the words of the chapter give them.
func TestCheckByWords(t *testing.T) {
	rnd := rand.New(rand.NewSource(1))
	seen := map[api.Errno]int{}
	for range 60000 {
		x := anyMeeting(rnd, api.MaxJudges, api.MaxContests)
		seating := anySeating(rnd, x)
		if rnd.Intn(20) == 0 {
			seating = append(seating, []int{rnd.Intn(api.MaxJudges + 1)})[rnd.Intn(2):]
		}
		contest, e := panel.Check(x, seating)
		if want, f := checkBy(x, seating); contest != want || e != f {
			t.Fatalf("%v, %v: %d, error %d, not %d, error %d", x, seating, contest, e, want, f)
		}
		seen[e]++
		if e == api.ErrLimit && contest > 0 {
			seen[-e]++
		}
	}
	for _, e := range []api.Errno{api.OK, api.ErrRange, api.ErrOrder, api.ErrShort, api.ErrRefuse, api.ErrTwice, api.ErrLimit, -api.ErrLimit} {
		if seen[e] < 500 {
			t.Errorf("error %d was seen only %d times", e, seen[e])
		}
	}
}
