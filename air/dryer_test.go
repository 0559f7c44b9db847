package air_test

import (
	"math/rand"
	"slices"
	"testing"

	"icehall/air"
	"icehall/api"
)

// P5.5: the examples of the document, and others.
func TestDryer(t *testing.T) {
	one := api.Air{Room: 1, Temps: []int{0, 10}, Holds: []int{50, 100}, Breath: span(3, 5)}
	steam := func(lo, hi int) api.Step { return api.Step{Steam: span(lo, hi)} }
	for name, c := range map[string]struct {
		a    api.Air
		w    api.Span
		l    []api.Step
		want int
		e    api.Errno
	}{
		"both steps":               {example(), exampleWater, exampleSteps(), 6550, api.OK},
		"the first step":           {example(), exampleWater, exampleSteps()[:1], 3100, api.OK},
		"the second step":          {example(), exampleWater, exampleSteps()[1:], 11000, api.OK},
		"no step":                  {example(), span(0, api.MaxWet), nil, 0, api.OK},
		"none is needed":           {one, span(0, 50), []api.Step{{}}, 0, api.OK},
		"a bit is needed":          {one, span(0, 51), []api.Step{{}}, 1, api.OK},
		"its own one is no matter": {one, span(51, 51), []api.Step{{Dryer: api.MaxSteam}}, 1, api.OK},
		"rounded up":               {one, span(53, 53), []api.Step{{Cold: 10}, {}}, 2, api.OK},
		"for many people":          {one, span(0, 40), []api.Step{{People: 4}}, 10, api.OK},
		"the strongest":            {one, span(0, 50), []api.Step{steam(0, api.MaxSteam)}, api.MaxSteam, api.OK},
		"just too much":            {one, span(0, 51), []api.Step{steam(0, api.MaxSteam)}, 0, api.ErrNone},
		"too much later":           {one, span(0, 0), []api.Step{{}, steam(api.MaxSteam, api.MaxSteam), {People: 1}, {Change: 1000, Outer: span(0, 51)}}, api.MaxSteam - 50, api.OK},
		"too much in the end":      {greatest(), span(0, 0), []api.Step{{}, {People: api.MaxPeople, Change: 1000, Outer: span(api.MaxHold, api.MaxHold), Steam: span(api.MaxSteam, api.MaxSteam)}}, 0, api.ErrNone},
		"much water":               {one, span(0, api.MaxWet), []api.Step{{}}, 0, api.ErrNone},
	} {
		if n, e := air.Dryer(c.a, c.w, c.l); n != c.want || e != c.e {
			t.Errorf("%s: %d, error %d; want %d, %d", name, n, e, c.want, c.e)
		}
	}
}

// withDryer returns the same steps, all with this dryer.
func withDryer(l []api.Step, dryer int) []api.Step {
	l = slices.Clone(l)
	for i := range l {
		l[i].Dryer = dryer
	}
	return l
}

// P5.5: all that may be true is followed, with one dryer after the other.
func TestDryerModel(t *testing.T) {
	rnd := rand.New(rand.NewSource(55))
	strong := 0
	for range 1500 {
		a := anyAir(rnd)
		w, l := anySpan(rnd, 20, 1), anySteps(rnd, a, 3)
		want := 0
		for {
			if _, perhaps := foggy(truths(a, w, withDryer(l, want)), len(l)); perhaps < 0 {
				break
			}
			want++
		}
		if n, e := air.Dryer(a, w, l); n != want || e != api.OK {
			t.Fatalf("Dryer(%v, %v, %v) = %d, error %d; want %d", a, w, l, n, e, want)
		}
		if want > 2 {
			strong++
		}
	}
	if strong < 300 {
		t.Error("a strong one was needed", strong, "times")
	}
}

// P5.5 and P5.7: with what Dryer says there is no dew; with less there may be, or it is 0; also with great numbers.
func TestDryerJustEnough(t *testing.T) {
	rnd := rand.New(rand.NewSource(550))
	ends := map[api.Errno]int{}
	for range 3000 {
		a, l := anyGreatSteps(rnd)
		w := anySpan(rnd, api.MaxWet>>(1+rnd.Intn(9)), api.MaxWet)
		n, e := air.Dryer(a, w, l)
		ends[e]++
		if e == api.ErrNone {
			// Not even the strongest one is enough.
			if _, m := mustRun(t, a, w, withDryer(l, api.MaxSteam)); m.Dew.Hi == 0 {
				t.Fatalf("Dryer(%v, %v, %v): error %d", a, w, l, e)
			}
			continue
		}
		if _, m := mustRun(t, a, w, withDryer(l, n)); m.Dew.Hi > 0 || e != api.OK {
			t.Fatalf("Dryer(%v, %v, %v) = %d, error %d: dew %v", a, w, l, n, e, m.Dew)
		}
		if n == 0 {
			continue
		}
		if _, m := mustRun(t, a, w, withDryer(l, n-1)); m.Dew.Hi == 0 {
			t.Fatalf("Dryer(%v, %v, %v) = %d: less is enough", a, w, l, n)
		}
	}
	if ends[api.OK] < 500 || ends[api.ErrNone] < 500 {
		t.Error("not all ends were seen:", ends)
	}
}
