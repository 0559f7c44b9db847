package air_test

import (
	"math/rand"
	"testing"

	"icehall/air"
	"icehall/api"
)

// P5.3: the examples of the document, and others.
func TestFog(t *testing.T) {
	dry := exampleSteps()
	dry[0].Dryer = 3100
	one := api.Air{Room: 1, Temps: []int{0, 10}, Holds: []int{50, 100}}
	for name, c := range map[string]struct {
		a               api.Air
		w               api.Span
		l               []api.Step
		surely, perhaps int
		e               api.Errno
	}{
		"both steps":            {example(), exampleWater, exampleSteps(), 1, 0, api.OK},
		"the first step":        {example(), exampleWater, exampleSteps()[:1], -1, 0, api.OK},
		"the second step":       {example(), exampleWater, exampleSteps()[1:], 0, 0, api.OK},
		"a stronger dryer":      {example(), exampleWater, dry[:1], 0, 0, api.ErrNone},
		"both, with it":         {example(), exampleWater, dry, 1, 1, api.OK},
		"no step":               {example(), exampleWater, nil, 0, 0, api.ErrNone},
		"no step, much water":   {example(), span(api.MaxWet, api.MaxWet), []api.Step{}, 0, 0, api.ErrNone},
		"just what it holds":    {one, span(50, 50), []api.Step{{}}, 0, 0, api.ErrNone},
		"one more":              {one, span(51, 51), []api.Step{{}}, 0, 0, api.OK},
		"perhaps one more":      {one, span(50, 51), []api.Step{{}}, -1, 0, api.OK},
		"late":                  {one, span(60, 70), []api.Step{{Cold: 10}, {Cold: 4}, {Cold: 3}, {Cold: 2}, {Cold: 1}}, 4, 2, api.OK},
		"surely only once":      {one, span(60, 70), []api.Step{{}, {Cold: 10}, {}}, 0, 0, api.OK},
		"perhaps twice":         {one, span(40, 70), []api.Step{{}, {Steam: span(0, 5)}, {Steam: span(0, 5)}}, -1, 0, api.OK},
		"perhaps, then surely":  {one, span(40, 70), []api.Step{{}, {Steam: span(5, 5)}, {Steam: span(6, 6)}}, 2, 0, api.OK},
		"each time a bit":       {one, span(40, 50), []api.Step{{Steam: span(1, 1), Dryer: 1}, {Steam: span(2, 2), Dryer: 1}}, -1, 1, api.OK},
		"dew that is not there": {one, span(0, 60), []api.Step{{Dryer: 10}, {Dryer: 10}}, 0, 0, api.ErrNone},
	} {
		surely, perhaps, e := air.Fog(c.a, c.w, c.l)
		if surely != c.surely || perhaps != c.perhaps || e != c.e {
			t.Errorf("%s: %d, %d, error %d; want %d, %d, %d", name, surely, perhaps, e, c.surely, c.perhaps, c.e)
		}
	}
}

// P5.3: all that may be true is followed.
func TestFogModel(t *testing.T) {
	rnd := rand.New(rand.NewSource(53))
	ends := map[string]int{}
	for range 4000 {
		a := anyAir(rnd)
		w, l := anySpan(rnd, 20, 2), anySteps(rnd, a, 3)
		wantSurely, wantPerhaps := foggy(truths(a, w, l), len(l))
		want, kind := api.OK, "both"
		switch {
		case wantPerhaps < 0:
			wantSurely, wantPerhaps, want, kind = 0, 0, api.ErrNone, "none"
		case wantSurely < 0:
			kind = "perhaps"
		case wantSurely > wantPerhaps:
			kind = "surely later"
		}
		ends[kind]++
		surely, perhaps, e := air.Fog(a, w, l)
		if surely != wantSurely || perhaps != wantPerhaps || e != want {
			t.Fatalf("Fog(%v, %v, %v) = %d, %d, error %d; want %d, %d, %d", a, w, l, surely, perhaps, e, wantSurely, wantPerhaps, want)
		}
	}
	if ends["both"] < 300 || ends["none"] < 300 || ends["perhaps"] < 100 || ends["surely later"] < 50 {
		t.Error("not all ends were seen:", ends)
	}
}
