package air_test

import (
	"math/rand"
	"slices"
	"testing"

	"icehall/air"
	"icehall/api"
)

// P5.2: the examples of the document, and each part of a step.
func TestRun(t *testing.T) {
	one := api.Air{Room: 1, Temps: []int{0, 10}, Holds: []int{50, 100}, Breath: span(3, 5)}
	step := func(s api.Step) []api.Step { return []api.Step{s} }
	for name, c := range map[string]struct {
		a    api.Air
		w    api.Span
		l    []api.Step
		want api.Span
		m    api.Moisture
	}{
		"no step":             {example(), exampleWater, nil, exampleWater, api.Moisture{}},
		"no step, much water": {example(), span(0, api.MaxWet), []api.Step{}, span(0, api.MaxWet), api.Moisture{}},
		"the first step": {example(), exampleWater, exampleSteps()[:1], span(37700, 40000),
			api.Moisture{Came: span(4700, 6200), Out: span(4000, 4100), Dried: span(3000, 3000), Dew: span(0, 100)}},
		"both steps": {example(), exampleWater, exampleSteps(), span(30000, 30000),
			api.Moisture{Came: span(4700, 6200), Out: span(4000, 4100), Dried: span(5000, 5000), Dew: span(5700, 8100)}},
		"nothing happens":                 {one, span(20, 30), step(api.Step{}), span(20, 30), api.Moisture{}},
		"out is rounded up":               {one, span(1, 11), step(api.Step{Change: 100}), span(0, 9), api.Moisture{Out: span(1, 2)}},
		"a thousandth of little":          {one, span(0, 1), step(api.Step{Change: 1}), span(0, 0), api.Moisture{Out: span(0, 1)}},
		"in is rounded down":              {one, span(0, 0), step(api.Step{Change: 100, Outer: span(9, 29)}), span(0, 2), api.Moisture{Came: span(0, 2)}},
		"all is changed":                  {one, span(7, 9), step(api.Step{Change: 1000, Outer: span(20, 30)}), span(20, 30), api.Moisture{Came: span(20, 30), Out: span(7, 9)}},
		"outer air without a change":      {one, span(7, 9), step(api.Step{Outer: span(20, 30)}), span(7, 9), api.Moisture{}},
		"people breathe":                  {one, span(7, 9), step(api.Step{People: 4}), span(19, 29), api.Moisture{Came: span(12, 20)}},
		"steam":                           {one, span(7, 9), step(api.Step{Steam: span(6, 8)}), span(13, 17), api.Moisture{Came: span(6, 8)}},
		"what comes does not go out":      {one, span(0, 0), step(api.Step{Change: 1000, People: 1, Steam: span(6, 8)}), span(9, 13), api.Moisture{Came: span(9, 13)}},
		"the dryer takes all":             {one, span(7, 9), step(api.Step{Dryer: 8}), span(0, 1), api.Moisture{Dried: span(7, 8)}},
		"the dryer takes what comes, too": {one, span(0, 0), step(api.Step{Steam: span(6, 8), Dryer: 7}), span(0, 1), api.Moisture{Came: span(6, 8), Dried: span(6, 7)}},
		"dew":                             {one, span(49, 60), step(api.Step{}), span(49, 50), api.Moisture{Dew: span(0, 10)}},
		"dew where it is warm":            {one, span(49, 60), step(api.Step{Cold: 1}), span(49, 55), api.Moisture{Dew: span(0, 5)}},
		"it is dried before there is dew": {one, span(60, 60), step(api.Step{Dryer: 10}), span(50, 50), api.Moisture{Dried: span(10, 10)}},
		"the greatest steam":              {one, span(0, 0), step(api.Step{Steam: span(0, api.MaxSteam)}), span(0, 50), api.Moisture{Came: span(0, api.MaxSteam), Dew: span(0, api.MaxSteam-50)}},
	} {
		end, m, e := air.Run(c.a, c.w, c.l)
		if end != c.want || m != c.m || e != api.OK {
			t.Errorf("%s: %v, %v, error %d; want %v, %v", name, end, m, e, c.want, c.m)
		}
	}
}

// greatest returns the air that holds most.
func greatest() api.Air {
	return api.Air{Room: api.MaxRoom, Temps: []int{0}, Holds: []int{api.MaxHold}, Breath: span(api.MaxBreath, api.MaxBreath)}
}

// P5.2: as many steps as there can be, with the greatest numbers.
func TestRunGreatest(t *testing.T) {
	const hold, breath = api.MaxRoom * api.MaxHold, api.MaxPeople * api.MaxBreath
	s := api.Step{People: api.MaxPeople, Change: api.Whole, Outer: span(api.MaxHold, api.MaxHold), Steam: span(api.MaxSteam, api.MaxSteam), Dryer: api.MaxSteam}
	w := span(api.MaxWet, api.MaxWet)
	end, m := mustRun(t, greatest(), w, slices.Repeat([]api.Step{s}, api.MaxSteps))
	same := func(n int) api.Span { return span(n, n) }
	want := api.Moisture{
		Came:  same(api.MaxSteps * (hold + breath + api.MaxSteam)),
		Out:   same(api.MaxWet + (api.MaxSteps-1)*hold),
		Dried: same(api.MaxSteps * api.MaxSteam),
		Dew:   same(api.MaxSteps * breath),
	}
	if end != same(hold) || m != want {
		t.Errorf("%v, %v; want %v, %v", end, m, same(hold), want)
	}
	if _, _, e := air.Run(greatest(), w, make([]api.Step, api.MaxSteps+1)); e != api.ErrArg {
		t.Error("one more step:", e)
	}
}

// P5.2: all that may be true is followed, and what is told is just as wide.
func TestRunModel(t *testing.T) {
	rnd := rand.New(rand.NewSource(52))
	dew := 0
	for range 4000 {
		a := anyAir(rnd)
		w, l := anySpan(rnd, 20, 2), anySteps(rnd, a, 3)
		wantEnd, wantM := spreads(truths(a, w, l))
		end, m := mustRun(t, a, w, l)
		if end != wantEnd || m != wantM {
			t.Fatalf("Run(%v, %v, %v) = %v, %v; want %v, %v", a, w, l, end, m, wantEnd, wantM)
		}
		if m.Dew.Lo > 0 {
			dew++
		}
	}
	if dew < 500 {
		t.Error("there surely was dew", dew, "times")
	}
}
