package ice_test

import (
	"math/rand"
	"slices"
	"testing"

	"icehall/api"
	"icehall/ice"
)

// R4: no argument is changed, with an error or without one.
func TestArgumentsStay(t *testing.T) {
	lists := [][]api.IceEvent{
		nil, exampleEvents(), exampleDay(),
		{{Kind: api.Paint, To: 1}, {Kind: api.Flood, To: 1, Amount: span(1, 2)}, {Kind: api.Drill, Amount: span(0, 1)}},
		{{Kind: api.Skate, To: 1, Amount: span(5, 9)}, {Kind: api.Flood, To: 1, Amount: span(0, api.MaxIce)}},
		{{Kind: api.Plane, To: 1, Amount: span(5, 9)}, {Kind: 9}},
	}
	for _, l := range lists {
		r, table, path, list := example(), exampleTable(), []int{1, 0, 1}, slices.Clone(l)
		ice.Play(r, list)
		ice.Thin(r, 1801)
		ice.Breaks(r, table, path, 6000)
		ice.Breaks(r, table, path, 100)
		ice.Keeps(r, list, 9, 0, api.MaxIce)
		ice.Water(r, span(20, 50), span(100, 150), 3, 2700, 3350)
		if !slices.Equal(r, example()) || !slices.Equal(table, exampleTable()) || !slices.Equal(path, []int{1, 0, 1}) || !slices.Equal(list, l) {
			t.Error("an argument was changed", r, table, path, list)
		}
	}
}

// R4: a result is new memory.
func TestResultsAreNew(t *testing.T) {
	for _, l := range [][]api.IceEvent{nil, exampleEvents()} {
		r := slices.Grow(example(), 8)
		one, _ := mustPlay(t, r, l)
		two, _ := mustPlay(t, r, l)
		want := slices.Clone(two)
		for i := range one {
			one[i] = api.Zone{}
		}
		if !slices.Equal(r, example()) || !slices.Equal(two, want) {
			t.Error("the zones of Play share memory", r, two)
		}
		r[0], r[1] = api.Zone{}, api.Zone{}
		if !slices.Equal(two, want) {
			t.Error("the zones of Play share memory with the rink", two)
		}
	}
	one, _ := ice.Thin(example(), 1901)
	two, _ := ice.Thin(example(), 1901)
	one[0] = 99
	if !slices.Equal(two, []int{0, 1}) {
		t.Error("the zones of Thin share memory", two)
	}
}

// P11: the same call returns the same, whatever was called before.
func TestAgain(t *testing.T) {
	first, s, _, _ := ice.Play(example(), exampleEvents())
	ice.Play(example(), []api.IceEvent{{Kind: api.Drill, Amount: span(0, 1)}})
	ice.Keeps(example(), exampleDay(), 9, 0, api.MaxIce)
	again, sums, _, _ := ice.Play(example(), exampleEvents())
	if !slices.Equal(first, again) || s != sums {
		t.Error(first, again)
	}
}

// P1 and R2: whatever is given, each function ends without a panic, and with an error nothing else is returned.
func TestAnyArguments(t *testing.T) {
	rnd := rand.New(rand.NewSource(1))
	number := func() int { return odd[rnd.Intn(len(odd))] }
	anything := func() api.Span { return span(number(), number()) }
	for range 20000 {
		r := example()
		if rnd.Intn(2) == 0 {
			r[rnd.Intn(2)].Ice = anything()
		}
		l := []api.IceEvent{{Kind: rnd.Intn(7) - 1, From: number(), To: number(), Amount: anything()}, {Kind: rnd.Intn(5), To: 1, Amount: anything()}}
		end, s, n, e := ice.Play(r, l)
		if e != api.OK && (len(end) != 0 || s != api.IceSums{} || n < 0 || n >= len(l)) {
			t.Fatal("Play", r, l, end, s, n, e)
		}
		if l, e := ice.Thin(r, number()); e != api.OK && len(l) != 0 {
			t.Fatal("Thin", r, l, e)
		}
		table := []api.Bearing{{Weight: number(), Ice: number()}, {Weight: number(), Ice: number()}}
		if n, e := ice.Breaks(r, table, []int{number(), 0}, number()); e != api.OK && n != 0 {
			t.Fatal("Breaks", r, table, n, e)
		}
		if d, z, e := ice.Keeps(r, l, number(), number(), number()); e != api.OK && (d != 0 || z != 0) {
			t.Fatal("Keeps", r, l, d, z, e)
		}
		if w, e := ice.Water(r, anything(), anything(), number(), number(), number()); e != api.OK && w != span(0, 0) {
			t.Fatal("Water", r, w, e)
		}
	}
}

// DOC.md, 'Limits of all of it': the greatest that can be given ends.
func TestGreatest(t *testing.T) {
	r := slices.Repeat([]api.Zone{{Ice: span(0, api.MaxIce)}}, api.MaxZones)
	day := slices.Repeat([]api.IceEvent{{Kind: api.Plane, To: api.MaxZones - 1, Amount: span(0, api.MaxIce)}}, api.MaxIceEvents)
	if _, _, e := ice.Keeps(r, day, api.MaxIceDays, 0, api.MaxIce); e != api.ErrNone {
		t.Error(e)
	}
	_, s := mustPlay(t, r, day)
	if s.Planed != span(0, api.MaxIceEvents*api.MaxZones*api.MaxIce) {
		t.Error(s)
	}
	w, e := ice.Water(r, span(0, 0), span(api.MaxIce, api.MaxIce), api.MaxIcePasses, 0, api.MaxIce)
	if w != span(0, api.MaxIce) || e != api.OK {
		t.Error(w, e)
	}
}
