package air_test

import (
	"math"
	"math/rand"
	"slices"
	"testing"

	"icehall/air"
	"icehall/api"
)

// P5.4: the examples of the document, and others.
func TestRust(t *testing.T) {
	one := api.Air{Room: 1, Temps: []int{0, 10}, Holds: []int{50, 100}}
	cold := []api.Step{{Cold: 10}, {Cold: 6}, {Cold: 4}, {Cold: 2}}
	for name, c := range map[string]struct {
		a     api.Air
		w     api.Span
		l     []api.Step
		limit int
		want  api.Span
	}{
		"the example":               {example(), exampleWater, exampleSteps(), 950, span(1, 2)},
		"just as much in a step":    {example(), exampleWater, exampleSteps(), 942, span(2, 2)},
		"less in a step":            {example(), exampleWater, exampleSteps(), 943, span(1, 2)},
		"all that it holds":         {example(), exampleWater, exampleSteps(), api.Whole, span(0, 0)},
		"nearly all":                {example(), exampleWater, exampleSteps(), api.Whole - 1, span(1, 2)},
		"anything":                  {example(), exampleWater, exampleSteps(), 0, span(2, 2)},
		"no step":                   {example(), exampleWater, nil, 0, span(0, 0)},
		"no water":                  {one, span(0, 0), []api.Step{{}, {}}, 0, span(0, 0)},
		"perhaps no water":          {one, span(0, 1), []api.Step{{}, {}}, 0, span(0, 2)},
		"just the limit":            {one, span(25, 25), []api.Step{{}}, 500, span(0, 0)},
		"one more":                  {one, span(26, 26), []api.Step{{}}, 500, span(1, 1)},
		"a bit of a milligram more": {one, span(25, 25), []api.Step{{}}, 499, span(1, 1)},
		"it gets colder":            {one, span(31, 36), cold, 500, span(1, 2)},
		"behind the dryer":          {one, span(26, 27), []api.Step{{Dryer: 1}, {Dryer: 1}}, 500, span(0, 1)},
	} {
		if s, e := air.Rust(c.a, c.w, c.l, c.limit); s != c.want || e != api.OK {
			t.Errorf("%s: %v, error %d; want %v", name, s, e, c.want)
		}
	}
}

// P5.4: the greatest numbers.
func TestRustGreatest(t *testing.T) {
	l := slices.Repeat([]api.Step{{Steam: span(api.MaxSteam, api.MaxSteam)}}, api.MaxSteps)
	for limit, want := range map[int]int{0: api.MaxSteps, api.Whole - 1: api.MaxSteps, api.Whole: 0} {
		if s := mustRust(t, greatest(), span(api.MaxWet, api.MaxWet), l, limit); s != span(want, want) {
			t.Errorf("limit %d: %v", limit, s)
		}
	}
}

// P5.4: the errors, in their order.
func TestRustErrors(t *testing.T) {
	for _, limit := range []int{-1, api.Whole + 1, math.MinInt, math.MaxInt} {
		for _, l := range [][]api.Step{nil, exampleSteps()} {
			if s, e := air.Rust(example(), exampleWater, l, limit); s != span(0, 0) || e != api.ErrRange {
				t.Errorf("limit %d: %v, error %d", limit, s, e)
			}
		}
		// What is wrong with the last step comes first, too.
		if s, e := air.Rust(example(), exampleWater, append(exampleSteps(), api.Step{Cold: 101}), limit); s != span(0, 0) || e != api.ErrArg {
			t.Errorf("limit %d, and a bad step: %v, error %d", limit, s, e)
		}
	}
}

// P5.4: all that may be true is followed.
func TestRustModel(t *testing.T) {
	rnd := rand.New(rand.NewSource(54))
	between := 0
	for range 4000 {
		a := anyAir(rnd)
		w, l := anySpan(rnd, 20, 2), anySteps(rnd, a, 3)
		limit := []int{0, 1, 500, 750, 999, 1000, rnd.Intn(api.Whole + 1)}[rnd.Intn(7)]
		want := spread(truths(a, w, l), func(is truth) int { return is.rusty(a, l, limit) })
		if s := mustRust(t, a, w, l, limit); s != want {
			t.Fatalf("Rust(%v, %v, %v, %d) = %v; want %v", a, w, l, limit, s, want)
		}
		if want.Lo < want.Hi {
			between++
		}
	}
	if between < 200 {
		t.Error("it was not sure", between, "times")
	}
}
