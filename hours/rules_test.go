package hours_test

import (
	"math/rand"
	"slices"
	"testing"

	"icehall/api"
	"icehall/hours"
)

// R1, R2: each function returns ErrArg first unless the timetable is valid, and nothing else.
func TestNotValid(t *testing.T) {
	for name, x := range badTimetables() {
		for _, l := range [][]int{nil, {0, 0, -1, 2}, {0, 1, 0}, {9}} {
			if has, n, e := hours.Check(x, l); len(has) != 0 || n != 0 || e != api.ErrArg {
				t.Errorf("%s: Check %v, %d, error %d", name, has, n, e)
			}
			if n, e := hours.Compare(x, l, l); n != 0 || e != api.ErrArg {
				t.Errorf("%s: Compare %d, error %d", name, n, e)
			}
			if l, e := hours.Hinders(x, l); len(l) != 0 || e != api.ErrArg {
				t.Errorf("%s: Hinders %v, error %d", name, l, e)
			}
		}
		if p, e := hours.Fairest(x); len(p) != 0 || e != api.ErrArg {
			t.Errorf("%s: Fairest %v, error %d", name, p, e)
		}
	}
}

// R7: what is at the end of its range is valid.
func TestJustValid(t *testing.T) {
	for name, change := range map[string]func(x *api.Timetable){
		"resurface 0":             func(x *api.Timetable) { x.Resurface = 0 },
		"resurface MaxResurface":  func(x *api.Timetable) { x.Resurface = api.MaxResurface },
		"five groups":             func(x *api.Timetable) { x.Groups = slices.Repeat([]api.Group{always(0)}, 5) },
		"12 hours":                func(x *api.Timetable) { x.Hours = evening(12) },
		"days 0":                  func(x *api.Timetable) { x.Groups[2].Days = 0 },
		"days 127":                func(x *api.Timetable) { x.Groups[2].Days = 127 },
		"early MaxMinute, late 0": func(x *api.Timetable) { x.Groups[0].Early, x.Groups[0].Late = api.MaxMinute, 0 },
		"most 0":                  func(x *api.Timetable) { x.Groups[1].Most = 0 },
		"most MaxIceHours":        func(x *api.Timetable) { x.Groups[1].Most = api.MaxIceHours },
		"credit 0":                func(x *api.Timetable) { x.Groups[1].Credit = 0 },
		"credit MaxCredit":        func(x *api.Timetable) { x.Groups[1].Credit = api.MaxCredit },
		"days 0 and 6":            func(x *api.Timetable) { x.Hours[0].Day, x.Hours[3].Day = 0, 6 },
		"the whole day":           func(x *api.Timetable) { x.Hours[3].Begin, x.Hours[3].End = 0, api.MaxMinute },
		"an hour of one minute":   func(x *api.Timetable) { x.Hours[2].End = x.Hours[2].Begin + 1 },
		"nothing":                 func(x *api.Timetable) { *x = api.Timetable{} },
		"empty lists":             func(x *api.Timetable) { x.Hours, x.Groups = []api.IceHour{}, []api.Group{} },
	} {
		x := example()
		change(&x)
		p, e := hours.Fairest(x)
		if e != api.OK || len(p) != len(x.Hours) {
			t.Errorf("%s: %v, error %d", name, p, e)
			continue
		}
		if l, e := hours.Hinders(x, make([]int, len(x.Groups))); len(l) != 0 || e != api.OK {
			t.Errorf("%s: %v, error %d", name, l, e)
		}
		mustHave(t, x, p)
	}
}

// P6.5, R4: no argument is changed, with an error or without one.
func TestArgumentsStay(t *testing.T) {
	for _, least := range [][]int{{1, 2, 1}, {2, 1, 1}, {0, 0, 13}} {
		for _, plan := range [][]int{{1, 1, 0, 2}, {0, 1, 0, 2}, {9}} {
			x, a, b, l := example(), slices.Clone(plan), slices.Clone(plan), slices.Clone(least)
			hours.Check(x, a)
			hours.Fairest(x)
			hours.Compare(x, a, b)
			hours.Hinders(x, l)
			if !same(x, example()) || !slices.Equal(a, plan) || !slices.Equal(b, plan) || !slices.Equal(l, least) {
				t.Error("an argument was changed", x, a, b, l)
			}
		}
	}
}

// P6.5, R4: results are new memory: a change of one is seen in no other one.
func TestResultsAreNew(t *testing.T) {
	plan, least := []int{0, 0, -1, 2}, []int{2, 1, 1}
	for range 2 {
		has := mustHave(t, example(), plan)
		p := mustFairest(t, example())
		l := mustHinder(t, example(), least)
		if !slices.Equal(has, []int{2, 1, 1}) || !slices.Equal(p, []int{0, 0, 0, 2}) || !slices.Equal(l, []int{0, 1, 2}) {
			t.Error(has, p, l)
		}
		for _, list := range [][]int{has, p, l} {
			for i := range list {
				list[i] = 77
			}
		}
	}
	if !slices.Equal(plan, []int{0, 0, -1, 2}) || !slices.Equal(least, []int{2, 1, 1}) {
		t.Error("an argument shares memory with a result", plan, least)
	}
}

// R3: nil and empty lists are the same.
func TestNilAndEmpty(t *testing.T) {
	for _, x := range []api.Timetable{{}, {Hours: []api.IceHour{}, Groups: []api.Group{}}} {
		for _, l := range [][]int{nil, {}} {
			if has, n, e := hours.Check(x, l); len(has) != 0 || n != 0 || e != api.OK {
				t.Error("Check", has, n, e)
			}
			if n, e := hours.Compare(x, l, nil); n != 0 || e != api.OK {
				t.Error("Compare", n, e)
			}
			if g, e := hours.Hinders(x, l); len(g) != 0 || e != api.OK {
				t.Error("Hinders", g, e)
			}
		}
		if p, e := hours.Fairest(x); len(p) != 0 || e != api.OK {
			t.Error("Fairest", p, e)
		}
	}
}

// P11: the same call returns the same, whatever was called before.
func TestAgain(t *testing.T) {
	rnd := rand.New(rand.NewSource(74))
	for range 20 {
		mustFairest(t, anyTimetable(rnd, 8, 5))
		if p := mustFairest(t, example()); !slices.Equal(p, []int{0, 0, 0, 2}) {
			t.Error(p)
		}
		if l := mustHinder(t, example(), []int{2, 1, 1}); !slices.Equal(l, []int{0, 1, 2}) {
			t.Error(l)
		}
		if l := mustHinder(t, example(), []int{1, 2, 1}); l != nil {
			t.Error(l)
		}
	}
}

// P1 and R2: whatever is given, each function ends without a panic, and with an error nothing but the hour is returned.
func TestAnyArguments(t *testing.T) {
	rnd := rand.New(rand.NewSource(75))
	number := func() int { return odd[rnd.Intn(len(odd))] }
	list := func(l []int) []int {
		for i := range l {
			if rnd.Intn(8) == 0 {
				l[i] = number()
			}
		}
		if rnd.Intn(8) == 0 {
			return l[:rnd.Intn(len(l)+1)]
		}
		return l
	}
	for range 20000 {
		x := anyTimetable(rnd, 5, 3)
		switch n := rnd.Intn(8); {
		case n == 0:
			x.Resurface = number()
		case n == 1 && len(x.Hours) > 0:
			x.Hours[rnd.Intn(len(x.Hours))] = hour(number(), number(), number())
		case n == 2 && len(x.Groups) > 0:
			x.Groups[rnd.Intn(len(x.Groups))] = api.Group{Days: number(), Early: number(), Late: number(), Most: number(), Credit: number()}
		}
		a, b, least := list(anyPlan(rnd, x)), list(anyPlan(rnd, x)), list(anyLeast(rnd, x, 3))
		if has, n, e := hours.Check(x, a); e != api.OK && len(has) != 0 || n < 0 || n > len(x.Hours) || (e == api.ErrArg || e == api.ErrRange) && n != 0 {
			t.Fatal("Check", x, a, has, n, e)
		}
		if n, e := hours.Compare(x, a, b); e != api.OK && n != 0 || n < -1 || n > 1 {
			t.Fatal("Compare", x, a, b, n, e)
		}
		if p, e := hours.Fairest(x); e != api.OK && len(p) != 0 || e == api.OK && len(p) != len(x.Hours) {
			t.Fatal("Fairest", x, p, e)
		}
		if l, e := hours.Hinders(x, least); e != api.OK && len(l) != 0 || len(l) > len(x.Groups) {
			t.Fatal("Hinders", x, least, l, e)
		}
	}
}
