package hours_test

import (
	"math/rand"
	"slices"
	"testing"

	"icehall/api"
	"icehall/hours"
)

// P6.3: Compare returns 1 if the first plan is fairer, -1 if the second one is, 0 if none is, or the error of Check.
func TestCompare(t *testing.T) {
	for name, c := range map[string]struct {
		a, b []int
		want int
		e    api.Errno
	}{
		"the example":                       {[]int{0, 0, -1, 2}, []int{1, 1, 0, 2}, -1, api.OK},
		"the example, the other way":        {[]int{1, 1, 0, 2}, []int{0, 0, -1, 2}, 1, api.OK},
		"the example, as fair":              {[]int{0, 0, 0, 2}, []int{1, 1, 0, 2}, 0, api.OK},
		"the same plan":                     {[]int{0, 0, 0, 2}, []int{0, 0, 0, 2}, 0, api.OK},
		"the least decides, not the sum":    {[]int{1, 1, 0, -1}, []int{0, -1, -1, 2}, -1, api.OK},
		"the second least decides":          {[]int{0, 0, -1, -1}, []int{0, -1, -1, -1}, 1, api.OK},
		"the greatest decides":              {[]int{1, 1, 0, 2}, []int{1, -1, 0, 2}, 1, api.OK},
		"no resurfacing in the first":       {[]int{0, 1, 0, 2}, []int{0, 0, 0, 2}, 0, api.ErrState},
		"a refusal in the second":           {[]int{0, 0, 0, 2}, []int{2, 0, 0, 0}, 0, api.ErrRefuse},
		"too many in the second":            {[]int{0, 0, 0, 2}, []int{1, 1, -1, 1}, 0, api.ErrLimit},
		"the second too short":              {[]int{0, 0, 0, 2}, []int{0, 0, 0}, 0, api.ErrRange},
		"no second plan":                    {[]int{0, 0, 0, 2}, nil, 0, api.ErrRange},
		"the error of the first one first":  {[]int{1, 1, -1, 1}, []int{0, 1, 0, 2}, 0, api.ErrLimit},
		"even if the second is no plan":     {[]int{0, 1, 0, 2}, []int{9}, 0, api.ErrState},
		"the first is no plan, nor another": {[]int{9}, []int{0, 1, 0, 2}, 0, api.ErrRange},
	} {
		if n, e := hours.Compare(example(), c.a, c.b); n != c.want || e != c.e {
			t.Errorf("%s: %d, error %d", name, n, e)
		}
	}
}

// P6.3: plans of no hours, or for no groups, are as fair.
func TestCompareNothing(t *testing.T) {
	for _, x := range []api.Timetable{{}, {Groups: []api.Group{always(1), always(0)}}} {
		if n, e := hours.Compare(x, nil, []int{}); n != 0 || e != api.OK {
			t.Error(n, e)
		}
	}
	if n, e := hours.Compare(api.Timetable{Hours: days(1)}, []int{-1}, []int{-1}); n != 0 || e != api.OK {
		t.Error(n, e)
	}
}

// P6.3: two good plans are compared as their sorted lists are, seasons before counted.
func TestCompareModel(t *testing.T) {
	rnd := rand.New(rand.NewSource(64))
	seen := map[int]int{}
	for range 20000 {
		x := anyTimetable(rnd, 8, 5)
		a, b := goodPlan(rnd, x), goodPlan(rnd, x)
		want := slices.Compare(sorted(hasBy(x, a)), sorted(hasBy(x, b)))
		n, e := hours.Compare(x, a, b)
		if n != want || e != api.OK {
			t.Fatalf("Compare(%v, %v, %v) = %d, error %d; not %d", x, a, b, n, e, want)
		}
		if m, e := hours.Compare(x, b, a); m != -want || e != api.OK {
			t.Fatalf("Compare(%v, %v, %v) = %d, error %d; not %d", x, b, a, m, e, -want)
		}
		seen[n]++
	}
	if seen[-1] < 1000 || seen[0] < 1000 || seen[1] < 1000 {
		t.Error("too few of", seen)
	}
}
