package press_test

import (
	"math"
	"math/rand"
	"testing"

	"icehall/api"
	"icehall/press"
)

// P3.3: the example of the document, and other first hours.
func TestBehind(t *testing.T) {
	after := func(hours, first, second, stored int) api.Presses {
		p := example()
		p.Presses[0].On, p.Presses[1].On = first, second
		p.Need, p.Price, p.Stored = p.Need[hours:], p.Price[hours:], stored
		return p
	}
	for name, c := range map[string]struct {
		plan [][]int
		want api.Presses
	}{
		"the example":        {[][]int{{0, 1}, {0, 1}}, after(2, 0, 3, 3)},
		"nothing":            {nil, example()},
		"nothing, and empty": {[][]int{}, example()},
		"an hour":            {[][]int{{1, 0}}, after(1, 1, 0, 3)},
		"all hours":          {[][]int{{1, 0}, {1, 0}, {1, 0}, {0, 1}}, after(4, 0, 1, 2)},
		"all but one":        {[][]int{{2, 0}, {1, 0}, {0, 0}}, after(3, 0, 0, 0)},
	} {
		b, e := press.Behind(example(), c.plan)
		if e != api.OK || !same(b, c.want) {
			t.Errorf("%s: %v, %d; want %v", name, b, e, c.want)
		}
	}
}

// P3.3: the errors, in their order.
func TestBehindErrors(t *testing.T) {
	good := []int{0, 1}
	for name, c := range map[string]struct {
		plan [][]int
		e    api.Errno
	}{
		"too many lists":             {make([][]int, 5), api.ErrRange},
		"a good plan, and a list":    {[][]int{good, good, {0, 0}, good, good}, api.ErrRange},
		"a choice less":              {[][]int{good, {0}}, api.ErrRange},
		"a choice more":              {[][]int{good, {0, 1, 0}}, api.ErrRange},
		"a nil list":                 {[][]int{nil}, api.ErrRange},
		"a level too many":           {[][]int{{0, 2}}, api.ErrRange},
		"below 0":                    {[][]int{good, {-1, 0}}, api.ErrRange},
		"far too many":               {[][]int{good, {math.MaxInt, 0}}, api.ErrRange},
		"too little, then no choice": {[][]int{{0, 0}, {0}}, api.ErrRange},
		"too little":                 {[][]int{{0, 0}}, api.ErrShort},
		"too little, then refused":   {[][]int{{0, 0}, {0, 1}}, api.ErrShort},
		"too much":                   {[][]int{good, {1, 1}}, api.ErrFull},
		"off too early":              {[][]int{{1, 0}, {0, 1}}, api.ErrRefuse},
		"out of oil":                 {[][]int{{1, 0}, {1, 0}, {1, 0}, {1, 0}}, api.ErrRefuse},
	} {
		if b, e := press.Behind(example(), c.plan); e != c.e || !same(b, api.Presses{}) {
			t.Errorf("%s: %v, %d; want %d", name, b, e, c.e)
		}
	}
	for name, p := range badPresses() {
		for _, plan := range [][][]int{nil, {{0, 1}}, {{0}}, make([][]int, 99)} {
			if b, e := press.Behind(p, plan); e != api.ErrArg || !same(b, api.Presses{}) {
				t.Errorf("%s: %v, %d", name, b, e)
			}
		}
	}
}

// P3.3 and P3.5: behind first hours of any kind, compressors are as the model is, and cold is conserved.
func TestBehindModel(t *testing.T) {
	rnd := rand.New(rand.NewSource(33))
	ends := map[api.Errno]int{}
	for range 20000 {
		p := anyPresses(rnd, 3, rnd.Intn(6))
		all := lists(p)
		var plan [][]int
		m, why, cold := newModel(p), api.OK, p.Stored
		for h := range rnd.Intn(len(p.Need) + 1) {
			l := all[rnd.Intn(len(all))]
			plan = append(plan, l)
			cold -= p.Need[h]
			for i, n := range l {
				if n > 0 {
					cold += p.Presses[i].Levels[n-1].Cold
				}
			}
			if why == api.OK {
				m, why = m.next(l)
			}
		}
		b, e := press.Behind(p, plan)
		ends[e]++
		var want api.Presses
		if why == api.OK {
			want = clone(p)
			for i := range want.Presses {
				want.Presses[i].On = m.runs[i]
			}
			want.Stored, want.Need, want.Price = cold, p.Need[m.hour:], p.Price[m.hour:]
		}
		if e != why || !same(b, want) {
			t.Fatalf("Behind(%v, %v): %v, %d; want %v, %d", p, plan, b, e, want, why)
		}
	}
	if len(ends) != 4 || ends[api.OK] < 1000 {
		t.Error("not all ends were seen:", ends)
	}
}

// P3.5: behind each hour of the cheapest plan as much is stored as was stored and made, less what was needed.
func TestColdIsConserved(t *testing.T) {
	rnd := rand.New(rand.NewSource(35))
	for range 2000 {
		p := anyPresses(rnd, 3, 1+rnd.Intn(6))
		plan, _, e := press.Cheapest(p)
		if e != api.OK {
			continue
		}
		for h, l := range plan {
			now, then := mustBehind(t, p, plan[:h]), mustBehind(t, p, plan[:h+1])
			made := 0
			for i, n := range l {
				if n > 0 {
					made += p.Presses[i].Levels[n-1].Cold
				}
			}
			if now.Stored+made != p.Need[h]+then.Stored || then.Stored < 0 || then.Stored > p.Room {
				t.Fatalf("%v, hour %d of %v: %d and %d made; %d", p, h, plan, now.Stored, made, then.Stored)
			}
		}
	}
}

// P3.7: what is left of the cheapest plan is the cheapest one of what is left, if the peak costs nothing.
func TestCheapestBehind(t *testing.T) {
	rnd := rand.New(rand.NewSource(37))
	found := 0
	for range 1500 {
		p := anyPresses(rnd, 3, rnd.Intn(api.MaxPressHours+1))
		p.Peak = 0
		for h := range p.Need {
			p.Need[h] = rnd.Intn(5)
		}
		plan, cost, e := press.Cheapest(p)
		if e != api.OK {
			continue
		}
		found++
		for h := range len(plan) + 1 {
			first := clone(p)
			first.Need, first.Price = p.Need[:h], p.Price[:h]
			paid := sum(mustCheck(t, first, plan[:h]))
			rest, left := mustCheapest(t, mustBehind(t, p, plan[:h]))
			if !samePlan(rest, plan[h:]) || paid+left != cost {
				t.Fatalf("%v: %v for %d; behind %d hours %v for %d", p, plan, cost, h, rest, left)
			}
		}
	}
	if found < 200 {
		t.Error("plans were found", found, "times")
	}
}

// P3.1 and P3.3: a plan in two parts is checked as in one.
func TestCheckInParts(t *testing.T) {
	rnd := rand.New(rand.NewSource(38))
	for range 2000 {
		p := anyPresses(rnd, 3, rnd.Intn(7))
		plan, cost, e := press.Cheapest(p)
		if e != api.OK {
			continue
		}
		h := rnd.Intn(len(plan) + 1)
		first := clone(p)
		first.Need, first.Price = p.Need[:h], p.Price[:h]
		a, b := mustCheck(t, first, plan[:h]), mustCheck(t, mustBehind(t, p, plan[:h]), plan[h:])
		if a.Energy+b.Energy+a.Starts+b.Starts+max(a.Peak, b.Peak) != cost {
			t.Fatalf("%v, %v in two parts: %v and %v; %d", p, plan, a, b, cost)
		}
		if end := mustBehind(t, mustBehind(t, p, plan[:h]), plan[h:]); !same(end, mustBehind(t, p, plan)) {
			t.Fatalf("%v, %v in two parts: %v", p, plan, end)
		}
	}
}
