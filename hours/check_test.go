package hours_test

import (
	"math"
	"math/rand"
	"slices"
	"testing"

	"icehall/api"
	"icehall/hours"
)

// P6.1: Check returns what each group has, or the first hour with an error, and of its errors the first one.
func TestCheck(t *testing.T) {
	two := func(x api.Timetable) api.Timetable {
		x.Groups = slices.Clone(x.Groups[:2])
		return x
	}
	for name, c := range map[string]struct {
		x    api.Timetable
		plan []int
		has  []int
		hour int
		e    api.Errno
	}{
		"the example":                        {example(), []int{0, 0, -1, 2}, []int{2, 1, 1}, 4, api.OK},
		"the example, not resurfaced":        {example(), []int{0, 1, 0, 2}, nil, 1, api.ErrState},
		"the example, too late":              {example(), []int{0, 0, 1, 2}, nil, 2, api.ErrRefuse},
		"the example, not on this day":       {example(), []int{0, 0, 0, 0}, nil, 3, api.ErrRefuse},
		"nothing given: credit only":         {example(), []int{-1, -1, -1, -1}, []int{0, 1, 0}, 4, api.OK},
		"refused first, then too many":       {example(), []int{1, 1, 1, 1}, nil, 2, api.ErrRefuse},
		"too many":                           {example(), []int{1, 1, -1, 1}, nil, 3, api.ErrLimit},
		"the first hour decides":             {example(), []int{0, 1, 1, 0}, nil, 1, api.ErrState},
		"free between two groups":            {two(api.Timetable{Hours: evening(3), Groups: []api.Group{always(0), always(0)}, Resurface: 120}), []int{0, -1, 1}, []int{1, 1}, 3, api.OK},
		"the same group stays":               {two(api.Timetable{Hours: evening(3), Groups: []api.Group{always(0), always(0)}, Resurface: 120}), []int{1, 1, 1}, []int{0, 3}, 3, api.OK},
		"group 0 behind group 1":             {two(api.Timetable{Hours: evening(3), Groups: []api.Group{always(0), always(0)}, Resurface: 120}), []int{1, 1, 0}, nil, 2, api.ErrState},
		"no resurfacing":                     {api.Timetable{Hours: evening(2), Groups: []api.Group{always(7), always(0)}}, []int{1, 0}, []int{8, 1}, 2, api.OK},
		"no hours":                           {api.Timetable{Groups: []api.Group{always(3), always(2)}}, nil, []int{3, 2}, 0, api.OK},
		"no groups":                          {api.Timetable{Hours: days(2)}, []int{-1, -1}, nil, 2, api.OK},
		"nothing":                            {api.Timetable{}, []int{}, nil, 0, api.OK},
		"too short":                          {example(), []int{0, 0, -1}, nil, 0, api.ErrRange},
		"too long":                           {example(), []int{0, 0, -1, 2, -1}, nil, 0, api.ErrRange},
		"no plan":                            {example(), nil, nil, 0, api.ErrRange},
		"no such group":                      {example(), []int{0, 0, -1, 3}, nil, 0, api.ErrRange},
		"no such group, -2":                  {example(), []int{0, 0, -2, 2}, nil, 0, api.ErrRange},
		"no such group, greatest":            {example(), []int{0, 0, 2, math.MaxInt}, nil, 0, api.ErrRange},
		"no such group, least":               {example(), []int{math.MinInt, 0, 0, 0}, nil, 0, api.ErrRange},
		"no such group behind another error": {example(), []int{0, 1, 0, 3}, nil, 0, api.ErrRange},
		"too short with another error":       {example(), []int{0, 1, 0}, nil, 0, api.ErrRange},
		"group 0 of no groups":               {api.Timetable{Hours: days(1)}, []int{0}, nil, 0, api.ErrRange},
	} {
		if has, n, e := hours.Check(c.x, c.plan); !slices.Equal(has, c.has) || n != c.hour || e != c.e {
			t.Errorf("%s: %v, %d, error %d", name, has, n, e)
		}
	}
}

// P6.1: an hour with all three errors is refused; with the other two it is beyond the limit.
func TestCheckErrorOrder(t *testing.T) {
	x := api.Timetable{Hours: evening(3), Groups: []api.Group{always(0), always(0)}, Resurface: 1}
	plan := []int{1, 0, 1}
	for _, c := range []struct {
		change func(x *api.Timetable)
		hour   int
		e      api.Errno
	}{
		{func(x *api.Timetable) { x.Groups[0].Most = 0 }, 1, api.ErrLimit},
		{func(x *api.Timetable) { x.Groups[0].Early = 1440 }, 1, api.ErrRefuse},
		{func(x *api.Timetable) { x.Groups[0].Most = 12 }, 1, api.ErrRefuse},
		{func(x *api.Timetable) { x.Groups[0].Early = 0 }, 1, api.ErrState},
		{func(x *api.Timetable) { x.Resurface = 0 }, 3, api.OK},
		{func(x *api.Timetable) { x.Groups[1].Most = 1 }, 2, api.ErrLimit},
		{func(x *api.Timetable) { x.Groups[1].Days = 0 }, 0, api.ErrRefuse},
	} {
		c.change(&x)
		if has, n, e := hours.Check(x, plan); n != c.hour || e != c.e || e != api.OK && len(has) != 0 {
			t.Errorf("%v: %v, %d, error %d", x, has, n, e)
		}
	}
}

// P6.1: a group may have an hour on its days, that begins at Early or later and ends at Late or earlier.
func TestCheckMayHave(t *testing.T) {
	for day := range 7 {
		for _, c := range []struct {
			g    api.Group
			want api.Errno
		}{
			{api.Group{Days: 1 << day, Early: 100, Late: 200, Most: 1}, api.OK},
			{api.Group{Days: 127 - 1<<day, Early: 100, Late: 200, Most: 1}, api.ErrRefuse},
			{api.Group{Days: 127, Early: 101, Late: 200, Most: 1}, api.ErrRefuse},
			{api.Group{Days: 127, Early: 100, Late: 199, Most: 1}, api.ErrRefuse},
			{api.Group{Days: 127, Early: 99, Late: 201, Most: 1}, api.OK},
			{api.Group{Days: 127, Early: 200, Late: 100, Most: 1}, api.ErrRefuse},
			{api.Group{Days: 0, Early: 0, Late: 1440, Most: 1}, api.ErrRefuse},
			{api.Group{Days: 127, Early: 0, Late: 1440, Most: 0}, api.ErrLimit},
		} {
			x := api.Timetable{Hours: []api.IceHour{hour(day, 100, 200)}, Groups: []api.Group{c.g}}
			if _, _, e := hours.Check(x, []int{0}); e != c.want {
				t.Errorf("group %v, day %d: error %d", c.g, day, e)
			}
		}
	}
}

// P6.1: between two groups on a day there are Resurface minutes at least; on two days there need not be any.
func TestCheckResurface(t *testing.T) {
	for _, c := range []struct {
		next            api.IceHour
		resurface, want int
	}{
		{hour(2, 200, 260), 0, 0},
		{hour(2, 200, 260), 1, 1},
		{hour(2, 210, 260), 9, 0},
		{hour(2, 210, 260), 10, 0},
		{hour(2, 210, 260), 11, 1},
		{hour(2, 319, 320), 119, 0},
		{hour(2, 319, 320), 120, 1},
		{hour(2, 320, 321), 120, 0},
		{hour(3, 0, 60), 120, 0},
		{hour(3, 200, 260), 120, 0},
		{hour(6, 100, 200), 120, 0},
	} {
		x := api.Timetable{Hours: []api.IceHour{hour(2, 140, 200), c.next}, Groups: []api.Group{always(0), always(0)}, Resurface: c.resurface}
		for _, plan := range [][]int{{0, 1}, {1, 0}} {
			_, n, e := hours.Check(x, plan)
			if c.want == 0 && (n != 2 || e != api.OK) || c.want == 1 && (n != 1 || e != api.ErrState) {
				t.Errorf("%v with %d minutes, %v: %d, error %d", c.next, c.resurface, plan, n, e)
			}
		}
	}
}

// P6.1: with any plan Check returns what the words of the chapter give, hour by hour.
func TestCheckModel(t *testing.T) {
	rnd := rand.New(rand.NewSource(61))
	seen := map[api.Errno]int{}
	for range 30000 {
		x := anyTimetable(rnd, 6, 3)
		plan := anyPlan(rnd, x)
		want, hour, err := hasBy(x, plan), len(plan), api.OK
		for i := range plan {
			if err = wrong(x, plan, i); err != api.OK {
				want, hour = nil, i
				break
			}
		}
		if has, n, e := hours.Check(x, plan); !slices.Equal(has, want) || n != hour || e != err {
			t.Fatalf("Check(%v, %v) = %v, %d, error %d; not %v, %d, error %d", x, plan, has, n, e, want, hour, err)
		}
		seen[err]++
	}
	for _, e := range []api.Errno{api.OK, api.ErrRefuse, api.ErrLimit, api.ErrState} {
		if seen[e] < 500 {
			t.Errorf("error %d was seen %d times only", e, seen[e])
		}
	}
}
