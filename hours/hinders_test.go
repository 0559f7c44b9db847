package hours_test

import (
	"math"
	"math/rand"
	"slices"
	"testing"

	"icehall/api"
	"icehall/hours"
)

// P6.4: Hinders returns the first of the smallest sets of groups that cannot have what they need.
func TestHinders(t *testing.T) {
	five := api.Timetable{Hours: days(4), Groups: slices.Repeat([]api.Group{always(5)}, 5)}
	tight := api.Timetable{Hours: evening(4), Groups: slices.Repeat([]api.Group{always(0)}, 3), Resurface: 1}
	for name, c := range map[string]struct {
		x     api.Timetable
		least []int
		want  []int
		e     api.Errno
	}{
		"the example":                       {example(), []int{1, 2, 1}, nil, api.OK},
		"the example, one":                  {example(), []int{0, 1, 2}, []int{2}, api.OK},
		"the example, three":                {example(), []int{2, 1, 1}, []int{0, 1, 2}, api.OK},
		"two":                               {example(), []int{3, 2, 0}, []int{0, 1}, api.OK},
		"one alone, the first of three":     {example(), []int{4, 3, 2}, []int{0}, api.OK},
		"one alone, the last":               {example(), []int{3, 2, 2}, []int{2}, api.OK},
		"nothing needed":                    {example(), []int{0, 0, 0}, nil, api.OK},
		"as much as there is":               {five, []int{0, 0, 4, 0, 0}, nil, api.OK},
		"seasons before do not help":        {five, []int{0, 0, 5, 0, 0}, []int{2}, api.OK},
		"five for four hours":               {five, []int{1, 1, 1, 1, 1}, []int{0, 1, 2, 3, 4}, api.OK},
		"two of five, the first pair":       {five, []int{2, 3, 3, 2, 0}, []int{0, 1}, api.OK},
		"two of five, not the least bits":   {five, []int{1, 2, 2, 4, 0}, []int{0, 3}, api.OK},
		"two of five, a later pair":         {five, []int{0, 1, 2, 3, 0}, []int{2, 3}, api.OK},
		"two of five, the last pair":        {five, []int{0, 1, 1, 2, 3}, []int{3, 4}, api.OK},
		"three of five, not the least bits": {five, []int{2, 0, 2, 0, 1}, []int{0, 2, 4}, api.OK},
		"three with two resurfacings":       {tight, []int{1, 1, 1}, []int{0, 1, 2}, api.OK},
		"two with one resurfacing":          {tight, []int{1, 2, 0}, nil, api.OK},
		"two with too few hours behind it":  {tight, []int{0, 2, 2}, []int{1, 2}, api.OK},
		"no groups":                         {api.Timetable{Hours: days(2)}, nil, nil, api.OK},
		"no hours":                          {api.Timetable{Groups: []api.Group{always(9), always(9)}}, []int{0, 1}, []int{1}, api.OK},
		"12 of 12 hours":                    {api.Timetable{Hours: evening(12), Groups: []api.Group{always(0)}, Resurface: 120}, []int{12}, nil, api.OK},
		"too few numbers":                   {example(), []int{0, 0}, nil, api.ErrRange},
		"too many numbers":                  {example(), []int{0, 0, 0, 0}, nil, api.ErrRange},
		"no numbers":                        {example(), nil, nil, api.ErrRange},
		"a number for no group":             {api.Timetable{Hours: days(2)}, []int{0}, nil, api.ErrRange},
		"13 hours":                          {example(), []int{0, 0, 13}, nil, api.ErrRange},
		"the greatest number":               {example(), []int{math.MaxInt, 0, 0}, nil, api.ErrRange},
		"below 0":                           {example(), []int{0, -1, 0}, nil, api.ErrRange},
		"the least number":                  {example(), []int{0, 0, math.MinInt}, nil, api.ErrRange},
	} {
		if l, e := hours.Hinders(c.x, c.least); !slices.Equal(l, c.want) || e != c.e {
			t.Errorf("%s: %v, error %d", name, l, e)
		}
	}
}

// P6.4: what hinders is what the trial of all sets and all good plans finds.
func TestHindersModel(t *testing.T) {
	rnd := rand.New(rand.NewSource(65))
	seen := map[int]int{}
	for range 4000 {
		x := anyTimetable(rnd, 6, 4)
		least := anyLeast(rnd, x, 3)
		var given [][]int
		for _, p := range goodPlans(withoutCredit(x)) {
			given = append(given, hasBy(withoutCredit(x), p))
		}
		l, want := mustHinder(t, x, least), tryHinders(x, least, given)
		if !slices.Equal(l, want) {
			t.Fatalf("Hinders(%v, %v) = %v, not %v", x, least, l, want)
		}
		seen[len(l)]++
	}
	if seen[0] < 300 || seen[1] < 300 || seen[2] < 100 || seen[3] < 30 {
		t.Error("too few sets of some size", seen)
	}
}

// P6.4: with as many hours and groups as there can be, what hinders is what the trial of all sets finds.
func TestHindersMany(t *testing.T) {
	rnd := rand.New(rand.NewSource(66))
	seen := map[int]int{}
	for range 40 {
		x := anyTimetable(rnd, api.MaxIceHours, 0)
		for range api.MaxGroups {
			g := always(0)
			g.Days, g.Most = rnd.Intn(128)|1|rnd.Intn(128), 3+rnd.Intn(10)
			x.Groups = append(x.Groups, g)
		}
		var given [][]int
		for e := range endings(x, nil) {
			given = append(given, e.given[:])
		}
		for range 20 {
			least := anyLeast(rnd, x, 5)
			l, want := mustHinder(t, x, least), tryHinders(x, least, given)
			if !slices.Equal(l, want) {
				t.Fatalf("Hinders(%v, %v) = %v, not %v", x, least, l, want)
			}
			seen[len(l)]++
		}
	}
	if seen[0] < 10 || seen[1] < 10 || seen[2] < 10 || seen[3] < 10 {
		t.Error("too few sets of some size", seen)
	}
}

// P6.4: the greatest timetables and needs.
func TestHindersGreatest(t *testing.T) {
	groups := slices.Repeat([]api.Group{always(api.MaxCredit)}, api.MaxGroups)
	for _, c := range []struct {
		resurface   int
		least, want []int
	}{
		{0, []int{12, 12, 12, 12, 12}, []int{0, 1}},
		{0, []int{3, 3, 2, 2, 2}, nil},
		{0, []int{3, 3, 2, 2, 3}, []int{0, 1, 2, 3, 4}},
		{120, []int{2, 2, 2, 1, 1}, nil},
		{120, []int{2, 2, 2, 2, 1}, []int{0, 1, 2, 3, 4}},
		{120, []int{3, 4, 3, 1, 0}, []int{0, 1, 2, 3}},
		{120, []int{3, 4, 3, 0, 4}, []int{0, 1, 4}},
	} {
		x := api.Timetable{Hours: evening(api.MaxIceHours), Groups: groups, Resurface: c.resurface}
		if l := mustHinder(t, x, c.least); !slices.Equal(l, c.want) {
			t.Error(c, l)
		}
	}
}

// withoutCredit returns the timetable of groups that had nothing in seasons before.
func withoutCredit(x api.Timetable) api.Timetable {
	x = clone(x)
	for i := range x.Groups {
		x.Groups[i].Credit = 0
	}
	return x
}
