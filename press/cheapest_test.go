package press_test

import (
	"math/rand"
	"slices"
	"testing"

	"icehall/api"
	"icehall/press"
)

// P3.2: the example of the document.
func TestCheapestExample(t *testing.T) {
	plan, cost := mustCheapest(t, example())
	if !samePlan(plan, [][]int{{2, 0}, {1, 0}, {0, 0}, {0, 1}}) || cost != 630 {
		t.Error(plan, cost)
	}
}

// P3.2: plans that are seen at once.
func TestCheapestPlain(t *testing.T) {
	with := func(p api.Presses, change func(p *api.Presses)) api.Presses {
		change(&p)
		return p
	}
	twins := with(single(1, 12, 0, 2), func(p *api.Presses) {
		p.Presses = append(p.Presses, p.Presses[0])
		p.Need = []int{5, 5}
	})
	for _, c := range []struct {
		name string
		p    api.Presses
		plan [][]int
		cost int
	}{
		{"nothing is needed", single(1, 12, 0, 3), row(0, 0, 0), 0},
		{"it has to run on", single(3, 12, 1, 3), row(1, 1, 0), 20},
		{"its oil is at its end", single(2, 2, 2, 1), row(0), 0},
		{"the cheap hour makes the cold", with(single(1, 12, 0, 2), func(p *api.Presses) { p.Need, p.Price = []int{0, 10}, []int{1, 9} }), row(2, 0), 27},
		{"a start costs more than to run", with(single(1, 12, 0, 3), func(p *api.Presses) { p.Need, p.Presses[0].Start = []int{5, 0, 5}, 100 }), row(1, 1, 0), 120},
		{"the peak costs more than a start", with(single(1, 1, 0, 3), func(p *api.Presses) { p.Need, p.Peak, p.Free = []int{5, 0, 5}, 1, 10 }), row(1, 0, 1), 34},
		{"the peak is free", with(single(1, 1, 0, 3), func(p *api.Presses) { p.Need, p.Peak, p.Free = []int{5, 0, 5}, 1, 20 }), row(2, 0, 0), 27},
		{"the latter of twins comes first", twins, [][]int{{0, 1}, {0, 1}}, 27},
		{"levels that are the same", with(single(1, 12, 0, 1), func(p *api.Presses) {
			p.Need, p.Presses[0].Levels = []int{5}, []api.Level{level(10, 5), level(10, 5)}
		}), row(1), 17},
		{"the second level is the lesser one", with(single(1, 12, 0, 1), func(p *api.Presses) {
			p.Need, p.Presses[0].Levels = []int{5}, []api.Level{level(10, 5), level(9, 5)}
		}), row(2), 16},
		{"all that can be", greatest(), append([][]int{{0, 1, 1}}, slices.Repeat([][]int{{1, 1, 1}}, 11)...), 10_000 * (2000 + 11*3000 + 3 + 3000)},
	} {
		if plan, cost := mustCheapest(t, c.p); !samePlan(plan, c.plan) || cost != c.cost {
			t.Errorf("%s: %v, %d; want %v, %d", c.name, plan, cost, c.plan, c.cost)
		}
	}
}

// P3.2: if no plan can be, and if there are no hours.
func TestCheapestNone(t *testing.T) {
	for name, change := range map[string]func(p *api.Presses){
		"no room":            func(p *api.Presses) { p.Stored, p.Room = 0, 0 },
		"more than all make": func(p *api.Presses) { p.Need[2] = 30 },
		"oil at its end":     func(p *api.Presses) { p.Presses[0].On, p.Presses[1].Oil = 3, 1 },
		"it must run on": func(p *api.Presses) {
			p.Presses[0].On, p.Presses[1].Least, p.Need = 1, 9, []int{0, 0, 0, 0}
		},
	} {
		p := example()
		change(&p)
		if plan, cost, e := press.Cheapest(p); len(plan) != 0 || cost != 0 || e != api.ErrNone {
			t.Errorf("%s: %v, %d, %d", name, plan, cost, e)
		}
	}
	for _, p := range []api.Presses{single(1, 12, 0, 0), single(3, 3, 1, 0), single(2, 2, 2, 0)} {
		p.Peak = 5
		if plan, cost, e := press.Cheapest(p); len(plan) != 0 || cost != 0 || e != api.OK {
			t.Error("no hours", plan, cost, e)
		}
	}
	for name, p := range badPresses() {
		if plan, cost, e := press.Cheapest(p); len(plan) != 0 || cost != 0 || e != api.ErrArg {
			t.Errorf("%s: %v, %d, %d", name, plan, cost, e)
		}
	}
}

// checkBest sees that Cheapest returns what was found in another way.
func checkBest(t *testing.T, p api.Presses, want outcome) {
	t.Helper()
	if !want.found {
		if plan, cost, e := press.Cheapest(p); len(plan) != 0 || cost != 0 || e != api.ErrNone {
			t.Fatalf("Cheapest(%v): %v, %d, %d; there is none", p, plan, cost, e)
		}
		return
	}
	if plan, cost := mustCheapest(t, p); !samePlan(plan, want.plan) || cost != want.cost {
		t.Fatalf("Cheapest(%v): %v, %d; want %v, %d", p, plan, cost, want.plan, want.cost)
	}
}

// P3.4: no plan that can be costs less, and none that is before it as much: all of them are tried.
func TestCheapestOfAll(t *testing.T) {
	rnd := rand.New(rand.NewSource(34))
	found := 0
	for i := range 4000 {
		p := anyPresses(rnd, 1+i%3, rnd.Intn([]int{9, 5, 4}[i%3]))
		want := tryAll(newModel(p))
		checkBest(t, p, want)
		if want.found {
			found++
		}
	}
	if found < 1000 || found > 3900 {
		t.Error("plans were found", found, "times")
	}
}

// P3.4: the same with as many hours as there can be, and with oil that lasts for some or all of them.
func TestCheapestLong(t *testing.T) {
	rnd := rand.New(rand.NewSource(340))
	found := 0
	for i := range 150 {
		p := anyPresses(rnd, 1+i%2, 8+rnd.Intn(5))
		for j := range p.Presses {
			q := &p.Presses[j]
			q.Oil = 1 + rnd.Intn(api.MaxPressHours)
			q.Least = 1 + rnd.Intn(q.Oil)
			q.On = rnd.Intn(q.Oil + 1)
		}
		p.Room += rnd.Intn(9)
		for h := range p.Need {
			p.Need[h] = rnd.Intn(6)
		}
		want := tryPlaces(newModel(p), map[place]outcome{})
		checkBest(t, p, want)
		if want.found {
			found++
		}
	}
	if found < 50 {
		t.Error("plans were found", found, "times")
	}
}

// P3.4: as many compressors, levels, hours and amounts of cold as there can be. What differs from the plan in an hour or two costs no less.
func TestCheapestLargest(t *testing.T) {
	rnd := rand.New(rand.NewSource(341))
	p := api.Presses{Stored: 38, Room: api.MaxCold, Peak: 7012, Free: 51}
	for range api.MaxPresses {
		q := api.Press{Start: rnd.Intn(api.MaxCents), Least: 2, Oil: 8}
		for range api.MaxLevels {
			q.Levels = append(q.Levels, level(1+rnd.Intn(api.MaxPower), rnd.Intn(50)))
		}
		p.Presses = append(p.Presses, q)
	}
	for range api.MaxPressHours {
		p.Need = append(p.Need, rnd.Intn(70))
		p.Price = append(p.Price, rnd.Intn(api.MaxCents))
	}
	plan, cost := mustCheapest(t, p)
	all, others := lists(p), 0
	for a := range plan {
		for b := a; b < len(plan); b++ {
			for range 2000 {
				other := slices.Clone(plan)
				other[a], other[b] = all[rnd.Intn(len(all))], all[rnd.Intn(len(all))]
				c, _, e := press.Check(p, other)
				if e != api.OK || samePlan(other, plan) {
					continue
				}
				others++
				before := slices.CompareFunc(other, plan, slices.Compare[[]int]) < 0
				if sum(c) < cost || sum(c) == cost && before {
					t.Fatalf("%v costs %v; %v costs %d", other, c, plan, cost)
				}
			}
		}
	}
	if others < 100 {
		t.Error("only", others, "other plans can be")
	}
}

// P3.6: with more room, a lower price, a lower charge, cheaper starts, or oil that lasts longer it costs no more.
func TestCheapestLess(t *testing.T) {
	rnd := rand.New(rand.NewSource(36))
	better := []func(p *api.Presses){
		func(p *api.Presses) { p.Room++ },
		func(p *api.Presses) { h := rnd.Intn(len(p.Price)); p.Price[h] = max(0, p.Price[h]-1) },
		func(p *api.Presses) { p.Peak = max(0, p.Peak-1) },
		func(p *api.Presses) { p.Free++ },
		func(p *api.Presses) { q := &p.Presses[rnd.Intn(len(p.Presses))]; q.Start = max(0, q.Start-1) },
		func(p *api.Presses) { p.Presses[rnd.Intn(len(p.Presses))].Oil++ },
	}
	less := make([]int, len(better))
	for range 1500 {
		p := anyPresses(rnd, 3, 1+rnd.Intn(7))
		_, cost, e := press.Cheapest(p)
		if e != api.OK {
			continue
		}
		for i, change := range better {
			q := clone(p)
			change(&q)
			_, now := mustCheapest(t, q)
			if now > cost {
				t.Fatalf("Cheapest(%v) costs %d; %v costs %d", q, now, p, cost)
			}
			if now < cost {
				less[i]++
			}
		}
	}
	if slices.Min(less) == 0 {
		t.Error("something never made it cheaper:", less)
	}
}
