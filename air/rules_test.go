package air_test

import (
	"math/rand"
	"slices"
	"testing"

	"icehall/air"
	"icehall/api"
)

// codes calls all functions that take steps, and returns their errors. It checks that there is nothing else with an error.
func codes(t *testing.T, a api.Air, w api.Span, l []api.Step, limit int) [4]api.Errno {
	t.Helper()
	end, m, e1 := air.Run(a, w, l)
	if e1 != api.OK && (end != span(0, 0) || m != api.Moisture{}) {
		t.Fatal("Run", a, w, l, end, m, e1)
	}
	surely, perhaps, e2 := air.Fog(a, w, l)
	if e2 != api.OK && (surely != 0 || perhaps != 0) || e2 == api.OK && (surely < -1 || perhaps < 0 || surely >= 0 && surely < perhaps || max(surely, perhaps) >= len(l)) {
		t.Fatal("Fog", a, w, l, surely, perhaps, e2)
	}
	rust, e3 := air.Rust(a, w, l, limit)
	if e3 != api.OK && rust != span(0, 0) || e3 == api.OK && (rust.Lo < 0 || rust.Lo > rust.Hi || rust.Hi > len(l)) {
		t.Fatal("Rust", a, w, l, limit, rust, e3)
	}
	dryer, e4 := air.Dryer(a, w, l)
	if e4 != api.OK && dryer != 0 || dryer < 0 || dryer > api.MaxSteam {
		t.Fatal("Dryer", a, w, l, dryer, e4)
	}
	return [4]api.Errno{e1, e2, e3, e4}
}

// P5.2 to P5.5, R1 and R2: ErrArg comes first in all functions, and nothing comes with it.
func TestNotValid(t *testing.T) {
	all := [4]api.Errno{api.ErrArg, api.ErrArg, api.ErrArg, api.ErrArg}
	for name, a := range badAirs() {
		for _, l := range [][]api.Step{nil, exampleSteps()} {
			if e := codes(t, a, exampleWater, l, -1); e != all {
				t.Errorf("%s: %v", name, e)
			}
		}
	}
	for name, w := range badWaters() {
		for _, l := range [][]api.Step{nil, exampleSteps()} {
			if e := codes(t, example(), w, l, -1); e != all {
				t.Errorf("%s: %v", name, e)
			}
		}
	}
	for name, s := range badSteps() {
		for i := range 3 {
			if e := codes(t, example(), exampleWater, slices.Insert(exampleSteps(), i, s), 0); e != all {
				t.Errorf("%s, step %d: %v", name, i, e)
			}
		}
	}
	if e := codes(t, example(), exampleWater, make([]api.Step, api.MaxSteps+1), 0); e != all {
		t.Errorf("201 steps: %v", e)
	}
}

// R7: what is just within its limits is valid.
func TestJustValid(t *testing.T) {
	temps, holds := curve(api.MaxCurve)
	long := api.Air{Room: 1, Temps: temps, Holds: holds}
	least := api.Air{Room: 1, Temps: []int{-api.MaxTenth, api.MaxTenth}, Holds: []int{1, 1}}
	most := api.Air{Room: api.MaxRoom, Temps: []int{-api.MaxTenth, api.MaxTenth}, Holds: []int{api.MaxHold, api.MaxHold}, Breath: span(0, api.MaxBreath)}
	all := api.Step{Cold: api.MaxTenth, People: api.MaxPeople, Change: api.Whole, Outer: span(0, api.MaxHold), Steam: span(0, api.MaxSteam), Dryer: api.MaxSteam}
	for name, c := range map[string]struct {
		a api.Air
		w api.Span
		l []api.Step
	}{
		"a long curve":   {long, span(0, 0), []api.Step{{Cold: temps[0]}, {Cold: temps[31]}}},
		"the least":      {least, span(0, 0), []api.Step{{Cold: -api.MaxTenth}}},
		"the most":       {most, span(0, api.MaxWet), []api.Step{all}},
		"much water":     {least, span(api.MaxWet, api.MaxWet), nil},
		"many steps":     {most, span(0, 0), slices.Repeat([]api.Step{all}, api.MaxSteps)},
		"a single point": {api.Air{Room: 5, Temps: []int{7}, Holds: []int{9}}, span(1, 1), []api.Step{{Cold: 7}}},
	} {
		for _, limit := range []int{0, api.Whole} {
			if e := codes(t, c.a, c.w, c.l, limit); e[0] != api.OK || e[1] == api.ErrArg || e[2] != api.OK || e[3] == api.ErrArg {
				t.Errorf("%s: %v", name, e)
			}
		}
	}
}

// P5.6 and R4: no argument is changed, with an error or without one.
func TestArgumentsStay(t *testing.T) {
	bad := append(exampleSteps(), api.Step{Cold: 101})
	for _, l := range [][]api.Step{nil, exampleSteps(), bad} {
		a, list := example(), slices.Clone(l)
		air.Holds(a, -25)
		codes(t, a, exampleWater, list, 950)
		codes(t, a, span(6, 5), list, -1)
		if !same(a, example()) || !slices.Equal(list, l) {
			t.Error("an argument was changed", a, list)
		}
	}
}

// R3: nil and empty lists are the same.
func TestNilAndEmpty(t *testing.T) {
	for _, l := range [][]api.Step{nil, {}} {
		if e := codes(t, example(), exampleWater, l, 0); e != [4]api.Errno{api.OK, api.ErrNone, api.OK, api.OK} {
			t.Error(e)
		}
		if end, m := mustRun(t, example(), exampleWater, l); end != exampleWater || m != (api.Moisture{}) {
			t.Error(end, m)
		}
	}
}

// P11: the same call returns the same, whatever was called before.
func TestAgain(t *testing.T) {
	want, wantM := mustRun(t, example(), exampleWater, exampleSteps())
	for range 20 {
		codes(t, greatest(), span(0, api.MaxWet), []api.Step{{People: 9, Change: 9}, {Cold: 1}}, 9)
		codes(t, example(), exampleWater, exampleSteps()[1:], 500)
		if end, m := mustRun(t, example(), exampleWater, exampleSteps()); end != want || m != wantM {
			t.Error(end, m)
		}
		if n, e := air.Dryer(example(), exampleWater, exampleSteps()); n != 6550 || e != api.OK {
			t.Error(n, e)
		}
	}
}

// P1 and R2: whatever is given, each function ends without a panic, and with an error nothing else is returned.
func TestAnyArguments(t *testing.T) {
	rnd := rand.New(rand.NewSource(5))
	number := func() int { return odd[rnd.Intn(len(odd))] }
	anything := func() api.Span { return span(number(), number()) }
	ends := map[api.Errno]int{}
	for range 20000 {
		a, w, l := example(), exampleWater, exampleSteps()
		switch rnd.Intn(6) {
		case 0:
			a = api.Air{Room: number(), Temps: []int{number(), number()}, Holds: []int{number(), number()}, Breath: anything()}
		case 1:
			a.Temps[rnd.Intn(3)], a.Holds[rnd.Intn(3)] = number(), number()
		case 2:
			a.Room, a.Breath, w = number(), anything(), anything()
		}
		switch s := &l[rnd.Intn(2)]; rnd.Intn(6) {
		case 0:
			*s = api.Step{Cold: number(), People: number(), Change: number(), Outer: anything(), Steam: anything(), Dryer: number()}
		case 1:
			s.Cold, s.Dryer = number(), number()
		case 2:
			s.People, s.Change, s.Steam.Hi = number(), number(), number()
		}
		if n, e := air.Holds(a, number()); e != api.OK && n != 0 || n < 0 {
			t.Fatal("Holds", a, n, e)
		}
		for _, e := range codes(t, a, w, l, number()) {
			ends[e]++
		}
	}
	if len(ends) != 4 || ends[api.OK] < 1000 || ends[api.ErrArg] < 1000 {
		t.Error("not all ends were seen:", ends)
	}
}
