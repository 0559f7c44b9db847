package ice_test

import (
	"math"
	"slices"
	"testing"

	"icehall/api"
	"icehall/ice"
)

// P1.2: the zones in which the paint may be covered by too little.
func TestThin(t *testing.T) {
	played, _ := mustPlay(t, example(), exampleEvents())
	deep := []api.Zone{{Ice: span(5, 9), Paint: span(0, 6)}, {Ice: span(5, 9), Paint: span(0, 5)}, {Ice: span(0, api.MaxIce), Paint: span(api.MaxIce, api.MaxIce)}}
	most := []api.Zone{{Ice: span(api.MaxIce, api.MaxIce)}, {Ice: span(api.MaxIce-1, api.MaxIce)}}
	for _, c := range []struct {
		rink  []api.Zone
		cover int
		want  []int
		e     api.Errno
	}{
		{played, 1800, []int{1}, api.OK},
		{example(), 1800, nil, api.OK},
		{example(), 1801, []int{1}, api.OK},
		{example(), 1900, []int{1}, api.OK},
		{example(), 1901, []int{0, 1}, api.OK},
		{example(), 0, nil, api.OK},
		{deep, 0, []int{0, 2}, api.OK},
		{deep, 1, []int{0, 1, 2}, api.OK},
		{most, api.MaxIce, []int{1}, api.OK},
		{example(), api.MaxIce, []int{0, 1}, api.OK},
		{example(), -1, nil, api.ErrRange},
		{example(), api.MaxIce + 1, nil, api.ErrRange},
		{example(), math.MinInt, nil, api.ErrRange},
		{example(), math.MaxInt, nil, api.ErrRange},
	} {
		if l, e := ice.Thin(c.rink, c.cover); !slices.Equal(l, c.want) || e != c.e {
			t.Errorf("Thin(%v, %d): %v, %d; want %v, %d", c.rink, c.cover, l, e, c.want, c.e)
		}
	}
	for name, r := range badRinks() {
		for _, cover := range []int{5, -1} {
			if l, e := ice.Thin(r, cover); len(l) != 0 || e != api.ErrArg {
				t.Errorf("%s: %v, %d", name, l, e)
			}
		}
	}
}

// P1.3: where a machine may break in.
func TestBreaks(t *testing.T) {
	played, _ := mustPlay(t, example(), exampleEvents())
	just := []api.Zone{{Ice: span(2800, 2800)}, {Ice: span(2799, 9000)}, {Ice: span(2000, 9000)}, {Ice: span(1999, 9000)}, {Ice: span(500, 9000)}, {Ice: span(499, 9000)}}
	for _, c := range []struct {
		rink   []api.Zone
		path   []int
		weight int
		n      int
		e      api.Errno
	}{
		{played, []int{0, 1}, 4000, 1, api.OK},
		{played, []int{0, 1}, 3000, 0, api.ErrNone},
		{played, []int{1, 0, 1}, 6000, 0, api.OK},
		{played, []int{0, 0, 0, 1, 1}, 3001, 3, api.OK},
		{played, slices.Repeat([]int{0}, 5000), 6000, 0, api.ErrNone},
		{played, append(slices.Repeat([]int{0}, 5000), 1), 6000, 5000, api.OK},
		{played, nil, 4000, 0, api.ErrNone},
		{played, []int{}, 6000, 0, api.ErrNone},
		{just, []int{0, 1}, 6000, 1, api.OK},
		{just, []int{0, 1}, 3001, 1, api.OK},
		{just, []int{0, 1, 2, 3}, 3000, 3, api.OK},
		{just, []int{0, 1, 2, 3}, 101, 3, api.OK},
		{just, []int{0, 1, 2, 3, 4, 5}, 100, 5, api.OK},
		{just, []int{0, 1, 2, 3, 4}, 1, 0, api.ErrNone},
		{just, []int{6}, 1, 0, api.ErrRange},
		{just, []int{5, -1}, 6000, 0, api.ErrRange},
		{just, []int{math.MaxInt}, 1, 0, api.ErrRange},
		{just, []int{math.MinInt}, 1, 0, api.ErrRange},
		{just, []int{5}, 0, 0, api.ErrRange},
		{just, []int{5}, 6001, 0, api.ErrRange},
		{just, nil, 6001, 0, api.ErrRange},
		{just, nil, math.MinInt, 0, api.ErrRange},
		{just, nil, math.MaxInt, 0, api.ErrRange},
	} {
		if n, e := ice.Breaks(c.rink, exampleTable(), c.path, c.weight); n != c.n || e != c.e {
			t.Errorf("Breaks(%v, %v, %d): %d, %d; want %d, %d", c.rink, c.path, c.weight, n, e, c.n, c.e)
		}
	}
}

// P1.3: what a table is.
func TestBreaksTables(t *testing.T) {
	rising := func(n int) []api.Bearing {
		l := make([]api.Bearing, n)
		for i := range l {
			l[i] = api.Bearing{Weight: i + 1, Ice: i}
		}
		return l
	}
	for i, good := range [][]api.Bearing{
		rising(1), rising(api.MaxBearings), {{Weight: api.MaxMachine, Ice: api.MaxIce}}, {{Weight: 1, Ice: 0}, {Weight: api.MaxMachine, Ice: api.MaxIce}},
	} {
		if _, e := ice.Breaks(example(), good, nil, 1); e != api.ErrNone {
			t.Error("a good table", i, e)
		}
	}
	for i, bad := range [][]api.Bearing{
		nil, {}, rising(api.MaxBearings + 1),
		{{Weight: 0, Ice: 1}}, {{Weight: -1, Ice: 1}}, {{Weight: math.MinInt, Ice: 1}}, {{Weight: api.MaxMachine + 1, Ice: 1}},
		{{Weight: 1, Ice: -1}}, {{Weight: 1, Ice: math.MinInt}}, {{Weight: 1, Ice: api.MaxIce + 1}},
		{{Weight: 5, Ice: 1}, {Weight: 5, Ice: 2}}, {{Weight: 5, Ice: 1}, {Weight: 4, Ice: 2}},
		{{Weight: 5, Ice: 2}, {Weight: 6, Ice: 2}}, {{Weight: 5, Ice: 2}, {Weight: 6, Ice: 1}},
		{{Weight: 5, Ice: 1}, {Weight: 6, Ice: 2}, {Weight: 7, Ice: 2}},
	} {
		for _, path := range [][]int{nil, {0}, {-1}} {
			if n, e := ice.Breaks(example(), bad, path, 1); n != 0 || e != api.ErrArg {
				t.Error("a bad table", i, n, e)
			}
		}
	}
	for name, r := range badRinks() {
		for _, weight := range []int{0, 1, 6001} {
			if n, e := ice.Breaks(r, exampleTable(), []int{99}, weight); n != 0 || e != api.ErrArg {
				t.Errorf("%s: %d, %d", name, n, e)
			}
		}
	}
}

// P1.8: with thicker ice a machine breaks in no earlier.
func TestBreaksThicker(t *testing.T) {
	path := []int{0, 1, 0}
	where := func(r []api.Zone, weight int) int {
		n, e := ice.Breaks(r, exampleTable(), path, weight)
		if e == api.ErrNone {
			return len(path)
		}
		return n
	}
	for _, weight := range []int{1, 100, 101, 3000, 3001, 6000} {
		for a := 400; a <= 3000; a += 100 {
			for b := 400; b <= 3000; b += 100 {
				thin := []api.Zone{{Ice: span(a, 5000)}, {Ice: span(b, 5000)}}
				thicker := []api.Zone{{Ice: span(a+37, 5000)}, {Ice: span(b+100, 5000)}}
				if where(thicker, weight) < where(thin, weight) {
					t.Error("thicker ice breaks earlier", thin, weight)
				}
			}
		}
	}
}
