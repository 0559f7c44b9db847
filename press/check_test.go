package press_test

import (
	"math"
	"math/rand"
	"slices"
	"testing"

	"icehall/api"
	"icehall/press"
)

// checkCase is a plan, and what Check has to return of it.
type checkCase struct {
	name string
	p    api.Presses
	plan [][]int
	cost api.PressCost
	n    int
	e    api.Errno
}

func checkCases(t *testing.T, cases []checkCase) {
	t.Helper()
	for _, c := range cases {
		if cost, n, e := press.Check(c.p, c.plan); cost != c.cost || n != c.n || e != c.e {
			t.Errorf("%s: %v, %d, %d; want %v, %d, %d", c.name, cost, n, e, c.cost, c.n, c.e)
		}
	}
}

// P3.1: the examples of the document.
func TestCheckExamples(t *testing.T) {
	p := example()
	checkCases(t, []checkCase{
		{name: "the plan that can be", p: p, plan: [][]int{{0, 1}, {0, 1}, {0, 0}, {0, 1}}, cost: api.PressCost{Energy: 600, Starts: 20, Peak: 15}, n: 4},
		{name: "the cheapest plan", p: p, plan: [][]int{{2, 0}, {1, 0}, {0, 0}, {0, 1}}, cost: api.PressCost{Energy: 530, Starts: 70, Peak: 30}, n: 4},
		{name: "too little", p: p, plan: [][]int{{0, 0}, {0, 0}, {0, 0}, {0, 0}}, e: api.ErrShort},
		{name: "too much", p: p, plan: [][]int{{0, 1}, {1, 1}, {0, 0}, {0, 0}}, n: 1, e: api.ErrFull},
		{name: "off too early", p: p, plan: [][]int{{1, 0}, {0, 1}, {0, 0}, {0, 0}}, n: 1, e: api.ErrRefuse},
		{name: "out of oil", p: p, plan: [][]int{{1, 0}, {1, 0}, {1, 0}, {1, 0}}, n: 3, e: api.ErrRefuse},
	})
}

// P3.1: when a compressor may be off, and when it may run.
func TestCheckRuns(t *testing.T) {
	checkCases(t, []checkCase{
		{name: "never on", p: single(2, 3, 0, 3), plan: row(0, 0, 0), n: 3},
		{name: "off behind Least hours", p: single(2, 3, 0, 3), plan: row(1, 1, 0), cost: api.PressCost{Energy: 20, Starts: 7}, n: 3},
		{name: "off an hour too early", p: single(3, 3, 0, 3), plan: row(1, 1, 0), n: 2, e: api.ErrRefuse},
		{name: "on for Oil hours", p: single(2, 3, 0, 3), plan: row(1, 2, 1), cost: api.PressCost{Energy: 40, Starts: 7}, n: 3},
		{name: "on for an hour more", p: single(2, 3, 0, 4), plan: row(1, 1, 1, 1), n: 3, e: api.ErrRefuse},
		{name: "on again", p: single(1, 1, 0, 3), plan: row(1, 0, 2), cost: api.PressCost{Energy: 30, Starts: 14}, n: 3},
		{name: "on again, for a while", p: single(2, 2, 2, 4), plan: row(0, 1, 0, 0), n: 2, e: api.ErrRefuse},
		{name: "the plan ends before Least hours", p: single(3, 3, 0, 2), plan: row(0, 1), cost: api.PressCost{Energy: 10, Starts: 7}, n: 2},
		{name: "it ran at first", p: single(2, 4, 1, 2), plan: row(1, 0), cost: api.PressCost{Energy: 10}, n: 2},
		{name: "it ran too little at first", p: single(2, 4, 1, 2), plan: row(0, 0), e: api.ErrRefuse},
		{name: "it ran for Least hours at first", p: single(2, 4, 2, 2), plan: row(0, 1), cost: api.PressCost{Energy: 10, Starts: 7}, n: 2},
		{name: "its oil lasts for an hour more", p: single(2, 4, 3, 2), plan: row(1, 0), cost: api.PressCost{Energy: 10}, n: 2},
		{name: "its oil lasts no more", p: single(2, 4, 4, 2), plan: row(1, 0), e: api.ErrRefuse},
		{name: "its oil lasts no more, later", p: single(2, 4, 3, 2), plan: row(2, 2), n: 1, e: api.ErrRefuse},
		{name: "all hours", p: single(12, 12, 0, 12), plan: row(1, 1, 1, 1, 1, 1, 1, 1, 1, 1, 1, 1), cost: api.PressCost{Energy: 120, Starts: 7}, n: 12},
	})
}

// P3.1: the bounds of what is stored.
func TestCheckCold(t *testing.T) {
	with := func(stored, room int, need ...int) api.Presses {
		p := single(1, 12, 0, len(need))
		p.Stored, p.Room, p.Need = stored, room, need
		return p
	}
	run := func(n int) api.PressCost { return api.PressCost{Energy: n, Starts: 7} }
	checkCases(t, []checkCase{
		{name: "just enough", p: with(2, 9, 7), plan: row(1), cost: run(10), n: 1},
		{name: "one too little", p: with(2, 9, 8), plan: row(1), e: api.ErrShort},
		{name: "just room", p: with(2, 9, 3), plan: row(2), cost: run(20), n: 1},
		{name: "one too much", p: with(2, 9, 2), plan: row(2), e: api.ErrFull},
		{name: "more than room before the need", p: with(9, 9, 10), plan: row(2), cost: run(20), n: 1},
		{name: "no room", p: with(0, 0, 5, 10, 0), plan: row(1, 2, 0), cost: run(30), n: 3},
		{name: "no room, one too much", p: with(0, 0, 5, 9), plan: row(1, 2), n: 1, e: api.ErrFull},
		{name: "no room, one too little", p: with(0, 0, 5, 11), plan: row(1, 2), n: 1, e: api.ErrShort},
		{name: "it is kept", p: with(0, 20, 0, 0, 20), plan: row(2, 2, 0), cost: run(40), n: 3},
		{name: "it is kept, but too little", p: with(0, 20, 0, 0, 21), plan: row(2, 2, 0), n: 2, e: api.ErrShort},
	})
}

// P3.1: energy by the hour's price, each start, and the peak above what is free.
func TestCheckCost(t *testing.T) {
	both := func(peak, free int) api.Presses {
		p := example()
		p.Need, p.Price = []int{9, 9, 0}, []int{3, 0, 7}
		p.Stored, p.Room, p.Peak, p.Free = 0, 100, peak, free
		return p
	}
	plan := [][]int{{1, 1}, {2, 1}, {1, 0}}
	energy := 3*25 + 7*10
	checkCases(t, []checkCase{
		{name: "the second hour has the peak", p: both(10, 30), plan: plan, cost: api.PressCost{Energy: energy, Starts: 50, Peak: 30}, n: 3},
		{name: "nothing is free", p: both(10, 0), plan: plan, cost: api.PressCost{Energy: energy, Starts: 50, Peak: 330}, n: 3},
		{name: "all is free", p: both(10, 33), plan: plan, cost: api.PressCost{Energy: energy, Starts: 50}, n: 3},
		{name: "more is free", p: both(10, 3000), plan: plan, cost: api.PressCost{Energy: energy, Starts: 50}, n: 3},
		{name: "all but one is free", p: both(10, 32), plan: plan, cost: api.PressCost{Energy: energy, Starts: 50, Peak: 10}, n: 3},
		{name: "the peak costs nothing", p: both(0, 0), plan: plan, cost: api.PressCost{Energy: energy, Starts: 50}, n: 3},
	})
	all := slices.Repeat([][]int{{1, 2, 1}}, api.MaxPressHours)
	checkCases(t, []checkCase{{name: "all that can be", p: greatest(), plan: all, cost: api.PressCost{Energy: 12 * 3000 * 10_000, Starts: 30_000, Peak: 3000 * 10_000}, n: 12}})
	for _, p := range []api.Presses{single(1, 1, 0, 0), single(1, 1, 1, 0)} {
		p.Peak = 9
		checkCases(t, []checkCase{{name: "no hours", p: p}})
	}
}

// P3.1: plans without a choice for each hour and compressor.
func TestCheckRange(t *testing.T) {
	p, good := example(), []int{0, 1}
	for name, plan := range map[string][][]int{
		"nil":                     nil,
		"an hour less":            {good, good, good},
		"an hour more":            {good, good, {0, 0}, good, good},
		"a nil list":              {good, nil, {0, 0}, good},
		"a choice less":           {good, good, {0, 0}, {0}},
		"a choice more":           {{0, 1, 0}, good, {0, 0}, good},
		"below 0":                 {good, good, {0, -1}, good},
		"far below 0":             {good, good, {math.MinInt, 0}, good},
		"a level too many":        {good, good, {0, 0}, {3, 0}},
		"of the other compressor": {{0, 2}, good, {0, 0}, good},
		"far too many":            {good, good, {0, math.MaxInt}, good},
	} {
		checkCases(t, []checkCase{{name: name, p: p, plan: plan, e: api.ErrRange}})
	}
	checkCases(t, []checkCase{{name: "no hours, and a list", p: single(1, 1, 0, 0), plan: row(0), e: api.ErrRange}})
}

// P3.1 and R1: which error is the first one.
func TestCheckErrorOrder(t *testing.T) {
	full, short := single(2, 2, 1, 2), single(2, 2, 1, 2)
	full.Room, short.Need = 4, []int{8, 0}
	checkCases(t, []checkCase{
		{name: "a later hour has no choice", p: short, plan: row(1, 3), e: api.ErrRange},
		{name: "too little, and then refused", p: short, plan: row(1, 1), e: api.ErrShort},
		{name: "too much, and then refused", p: full, plan: row(1, 1), e: api.ErrFull},
		{name: "refused, and too little", p: short, plan: row(0, 0), e: api.ErrRefuse},
		{name: "refused behind an hour, and too much", p: func() api.Presses { p := single(2, 2, 1, 2); p.Room = 5; return p }(), plan: row(1, 1), n: 1, e: api.ErrRefuse},
	})
	p := example()
	p.Presses[0].On, p.Room = 1, 3
	checkCases(t, []checkCase{
		{name: "the first one refused, too much of the second one", p: p, plan: [][]int{{0, 1}, {0, 0}, {0, 0}, {0, 0}}, e: api.ErrRefuse},
		{name: "both run, too much", p: p, plan: [][]int{{1, 1}, {0, 0}, {0, 0}, {0, 0}}, e: api.ErrFull},
	})
	p.Presses[1].Oil = 1
	checkCases(t, []checkCase{{name: "the second one refused, too much of both", p: p, plan: [][]int{{1, 1}, {0, 0}, {0, 0}, {0, 0}}, e: api.ErrRefuse}})
}

// P3.1: compressors that are not valid, whatever else is wrong.
func TestCheckBadPresses(t *testing.T) {
	for name, p := range badPresses() {
		for _, plan := range [][][]int{nil, {{0, 0}, {0, 0}, {0, 0}, {0, 0}}, {{0, 1}, {0, 1}, {0, 0}, {0, 1}}, {{9}}} {
			checkCases(t, []checkCase{{name: name, p: p, plan: plan, e: api.ErrArg}})
		}
	}
}

// P3.1 and P3.5: Check is as the model, which conserves cold, for plans of any kind.
func TestCheckModel(t *testing.T) {
	rnd := rand.New(rand.NewSource(31))
	ends := map[api.Errno]int{}
	for range 20000 {
		p := anyPresses(rnd, 3, rnd.Intn(5))
		all := lists(p)
		var plan [][]int
		m, hour, why := newModel(p), 0, api.OK
		for h := range p.Need {
			l := all[rnd.Intn(len(all))]
			plan = append(plan, l)
			if why == api.OK {
				if m, why = m.next(l); why == api.OK {
					hour = h + 1
				}
			}
		}
		c, n, e := press.Check(p, plan)
		if e != why || n != hour {
			t.Fatalf("Check(%v, %v): %d, %d; want %d, %d", p, plan, n, e, hour, why)
		}
		if e == api.OK && (sum(c) != m.cost() || c.Energy+c.Starts != m.paid) || e != api.OK && c != (api.PressCost{}) {
			t.Fatalf("Check(%v, %v): %v; want %v", p, plan, c, m)
		}
		ends[e]++
	}
	if len(ends) != 4 || ends[api.OK] < 1000 {
		t.Error("not all ends were seen:", ends)
	}
}
