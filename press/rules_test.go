package press_test

import (
	"math/rand"
	"slices"
	"testing"

	"icehall/api"
	"icehall/press"
)

// examplePlan returns a plan that can be.
func examplePlan() [][]int { return [][]int{{0, 1}, {0, 1}, {0, 0}, {0, 1}} }

// spoil writes over all of a list, and over what it could grow into.
func spoil[T any](l []T, with T) {
	l = l[:cap(l)]
	for i := range l {
		l[i] = with
	}
}

// R4: no argument is changed, with an error or without one.
func TestArgumentsStay(t *testing.T) {
	for _, plan := range [][][]int{examplePlan(), examplePlan()[:2], {{0, 0}}, {{1, 0}, {0, 1}, {0, 0}, {0, 0}}, {{9, 9}}} {
		p, l := example(), slices.Clone(plan)
		press.Check(p, l)
		press.Cheapest(p)
		press.Behind(p, l)
		if !same(p, example()) || !samePlan(l, plan) {
			t.Error("an argument was changed", p, l)
		}
	}
	plan := examplePlan()
	press.Check(example(), plan)
	press.Behind(example(), plan)
	if !samePlan(plan, examplePlan()) {
		t.Error("a plan was changed", plan)
	}
}

// R4: a result is new memory, and no two lists of it share any.
func TestResultsAreNew(t *testing.T) {
	plan, _ := mustCheapest(t, example())
	for h := range plan {
		want := slices.Clone(plan[h+1:])
		for i := range want {
			want[i] = slices.Clone(want[i])
		}
		spoil(plan[h], 77)
		if !samePlan(plan[h+1:], want) {
			t.Error("two hours of a plan share memory", plan)
		}
	}
	spoil(plan, nil)
	mustCheapest(t, example())

	p := example()
	// The same list in several places of an argument must not be the same one in the result.
	p.Presses[1].Levels, p.Price = p.Presses[0].Levels, p.Need
	before := clone(p)
	b := mustBehind(t, p, [][]int{{0, 1}})
	want := clone(b)
	spoil(b.Presses[0].Levels, level(77, 77))
	spoil(b.Need, 77)
	if !slices.Equal(b.Presses[1].Levels, want.Presses[1].Levels) || !slices.Equal(b.Price, want.Price) {
		t.Error("two lists of Behind share memory", b)
	}
	spoil(b.Presses[1].Levels, level(77, 77))
	spoil(b.Price, 77)
	spoil(b.Presses, api.Press{})
	if !same(p, before) {
		t.Error("what Behind returns shares memory with its argument", p)
	}
}

// R3: nil and empty lists are the same.
func TestNilAndEmpty(t *testing.T) {
	none, empty := single(1, 1, 0, 0), single(1, 1, 0, 0)
	none.Need, none.Price, empty.Need, empty.Price = nil, []int{}, []int{}, nil
	for _, p := range []api.Presses{none, empty} {
		for _, plan := range [][][]int{nil, {}} {
			if c, n, e := press.Check(p, plan); c != (api.PressCost{}) || n != 0 || e != api.OK {
				t.Error(c, n, e)
			}
			if b := mustBehind(t, p, plan); !same(b, p) {
				t.Error(b)
			}
		}
	}
}

// P11: the same call returns the same, whatever was called before.
func TestAgain(t *testing.T) {
	plan, cost := mustCheapest(t, example())
	for range 20 {
		press.Cheapest(greatest())
		press.Check(example(), [][]int{{0, 0}, {0, 0}, {0, 0}, {0, 0}})
		press.Behind(api.Presses{}, nil)
		if l, c := mustCheapest(t, example()); !samePlan(l, plan) || c != cost {
			t.Error(l, c)
		}
	}
}

// P1 and R2: whatever is given, each function ends without a panic, and with an error nothing else is returned.
func TestAnyArguments(t *testing.T) {
	rnd := rand.New(rand.NewSource(3))
	number := func() int { return odd[rnd.Intn(len(odd))] }
	for range 30000 {
		p, plan := example(), examplePlan()
		switch q := &p.Presses[rnd.Intn(2)]; rnd.Intn(7) {
		case 0:
			q.Levels = []api.Level{level(number(), number())}
		case 1:
			q.Start, q.Least = number(), number()
		case 2:
			q.Oil, q.On = number(), number()
		case 3:
			p.Need[rnd.Intn(4)], p.Price[rnd.Intn(4)] = number(), number()
		case 4:
			p.Stored, p.Room = number(), number()
		case 5:
			p.Peak, p.Free = number(), number()
		}
		plan[rnd.Intn(4)] = []int{number(), number()}
		plan = plan[:rnd.Intn(5)]
		if c, n, e := press.Check(p, plan); e != api.OK && (c != api.PressCost{} || n < 0 || n >= max(1, len(plan))) || e == api.OK && n != len(plan) {
			t.Fatal("Check", p, plan, c, n, e)
		}
		if l, cost, e := press.Cheapest(p); e != api.OK && (len(l) != 0 || cost != 0) || e == api.OK && len(l) != len(p.Need) {
			t.Fatal("Cheapest", p, l, cost, e)
		}
		if b, e := press.Behind(p, plan); e != api.OK && !same(b, api.Presses{}) || e == api.OK && len(b.Need) != len(p.Need)-len(plan) {
			t.Fatal("Behind", p, plan, b, e)
		}
	}
}
