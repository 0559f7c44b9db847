package press_test

import (
	"math"
	"math/rand"
	"slices"
	"testing"

	"icehall/api"
	"icehall/press"
)

// odd is numbers that no range of the chapter contains, or that are at the end of one.
var odd = []int{math.MinInt, -1, 0, 1, 2, 3, api.MaxPressHours, api.MaxPressHours + 1, api.MaxCold, api.MaxCold + 1, api.MaxPower, api.MaxPower + 1, api.MaxCents, api.MaxCents + 1, math.MaxInt}

func level(power, cold int) api.Level { return api.Level{Power: power, Cold: cold} }

// example returns the compressors of the document's examples.
func example() api.Presses {
	return api.Presses{
		Presses: []api.Press{
			{Levels: []api.Level{level(10, 4), level(18, 6)}, Start: 50, Least: 2, Oil: 3},
			{Levels: []api.Level{level(15, 5)}, Start: 20, Least: 1, Oil: 12, On: 1},
		},
		Need: []int{4, 6, 3, 5}, Price: []int{10, 20, 20, 10},
		Stored: 3, Room: 6, Peak: 5, Free: 12,
	}
}

// single returns one compressor with a level of 10 with 5 and one of 20 with 10, and hours that need nothing and have the price 1, with room for all cold.
func single(least, oil, on, hours int) api.Presses {
	return api.Presses{
		Presses: []api.Press{{Levels: []api.Level{level(10, 5), level(20, 10)}, Start: 7, Least: least, Oil: oil, On: on}},
		Need:    make([]int, hours), Price: slices.Repeat([]int{1}, hours), Room: api.MaxCold,
	}
}

// row returns the plan of a single compressor.
func row(l ...int) [][]int {
	var plan [][]int
	for _, n := range l {
		plan = append(plan, []int{n})
	}
	return plan
}

// clone returns the same compressors in memory of their own.
func clone(p api.Presses) api.Presses {
	p.Presses = slices.Clone(p.Presses)
	for i, q := range p.Presses {
		p.Presses[i].Levels = slices.Clone(q.Levels)
	}
	p.Need, p.Price = slices.Clone(p.Need), slices.Clone(p.Price)
	return p
}

// same returns whether compressors are the same.
func same(a, b api.Presses) bool {
	presses := slices.EqualFunc(a.Presses, b.Presses, func(p, q api.Press) bool {
		return slices.Equal(p.Levels, q.Levels) && p.Start == q.Start && p.Least == q.Least && p.Oil == q.Oil && p.On == q.On
	})
	return presses && slices.Equal(a.Need, b.Need) && slices.Equal(a.Price, b.Price) &&
		a.Stored == b.Stored && a.Room == b.Room && a.Peak == b.Peak && a.Free == b.Free
}

// samePlan returns whether plans are the same.
func samePlan(a, b [][]int) bool { return slices.EqualFunc(a, b, slices.Equal[[]int]) }

// sum returns a cost in all.
func sum(c api.PressCost) int { return c.Energy + c.Starts + c.Peak }

// badPresses returns compressors that are not valid, by what is wrong with them.
func badPresses() map[string]api.Presses {
	most := api.MaxPressHours
	changes := map[string]func(p *api.Presses){
		"nil presses":          func(p *api.Presses) { p.Presses = nil },
		"empty presses":        func(p *api.Presses) { p.Presses = []api.Press{} },
		"4 presses":            func(p *api.Presses) { p.Presses = slices.Repeat(p.Presses, 2) },
		"no levels":            func(p *api.Presses) { p.Presses[1].Levels = nil },
		"3 levels":             func(p *api.Presses) { p.Presses[1].Levels = slices.Repeat(p.Presses[1].Levels, 3) },
		"no power":             func(p *api.Presses) { p.Presses[1].Levels[0].Power = 0 },
		"power below 0":        func(p *api.Presses) { p.Presses[0].Levels[1].Power = -1 },
		"power above MaxPower": func(p *api.Presses) { p.Presses[0].Levels[1].Power = api.MaxPower + 1 },
		"cold below 0":         func(p *api.Presses) { p.Presses[0].Levels[0].Cold = -1 },
		"cold above MaxCold":   func(p *api.Presses) { p.Presses[0].Levels[1].Cold = api.MaxCold + 1 },
		"start below 0":        func(p *api.Presses) { p.Presses[1].Start = -1 },
		"start above MaxCents": func(p *api.Presses) { p.Presses[1].Start = api.MaxCents + 1 },
		"least 0":              func(p *api.Presses) { p.Presses[1].Least = 0 },
		"least below 0":        func(p *api.Presses) { p.Presses[1].Least = math.MinInt },
		"least above oil":      func(p *api.Presses) { p.Presses[0].Least = 4 },
		"oil 0":                func(p *api.Presses) { p.Presses[1].Least, p.Presses[1].Oil, p.Presses[1].On = 0, 0, 0 },
		"oil above its limit":  func(p *api.Presses) { p.Presses[1].Oil = most + 1 },
		"on below 0":           func(p *api.Presses) { p.Presses[1].On = -1 },
		"on above oil":         func(p *api.Presses) { p.Presses[0].On = 4 },
		"more needs":           func(p *api.Presses) { p.Need = append(p.Need, 0) },
		"more prices":          func(p *api.Presses) { p.Price = append(p.Price, 0) },
		"no prices":            func(p *api.Presses) { p.Price = nil },
		"13 hours":             func(p *api.Presses) { p.Need, p.Price = make([]int, most+1), make([]int, most+1) },
		"need below 0":         func(p *api.Presses) { p.Need[3] = -1 },
		"need above its limit": func(p *api.Presses) { p.Need[3] = api.MaxPresses*api.MaxCold + 1 },
		"price below 0":        func(p *api.Presses) { p.Price[3] = -1 },
		"price above MaxCents": func(p *api.Presses) { p.Price[3] = api.MaxCents + 1 },
		"room below 0":         func(p *api.Presses) { p.Stored, p.Room = 0, -1 },
		"room and stored < 0":  func(p *api.Presses) { p.Stored, p.Room = -1, -1 },
		"room above MaxCold":   func(p *api.Presses) { p.Room = api.MaxCold + 1 },
		"stored below 0":       func(p *api.Presses) { p.Stored = -1 },
		"stored above room":    func(p *api.Presses) { p.Stored = 7 },
		"peak below 0":         func(p *api.Presses) { p.Peak = -1 },
		"peak above MaxCents":  func(p *api.Presses) { p.Peak = api.MaxCents + 1 },
		"free below 0":         func(p *api.Presses) { p.Free = -1 },
		"free above its limit": func(p *api.Presses) { p.Free = api.MaxPresses*api.MaxPower + 1 },
	}
	bad := map[string]api.Presses{"nothing": {}}
	for name, change := range changes {
		p := example()
		change(&p)
		bad[name] = p
	}
	return bad
}

// greatest returns compressors with all numbers at the ends of their ranges.
func greatest() api.Presses {
	var p api.Presses
	for range api.MaxPresses {
		p.Presses = append(p.Presses, api.Press{
			Levels: []api.Level{level(api.MaxPower, api.MaxCold), level(api.MaxPower, api.MaxCold)},
			Start:  api.MaxCents, Least: api.MaxPressHours, Oil: api.MaxPressHours,
		})
	}
	p.Need = slices.Repeat([]int{api.MaxPresses * api.MaxCold}, api.MaxPressHours)
	p.Price = slices.Repeat([]int{api.MaxCents}, api.MaxPressHours)
	p.Stored, p.Room, p.Peak = api.MaxCold, api.MaxCold, api.MaxCents
	return p
}

// mustCheck returns the cost of a plan that has to be possible.
func mustCheck(t *testing.T, p api.Presses, plan [][]int) api.PressCost {
	t.Helper()
	c, n, e := press.Check(p, plan)
	if e != api.OK || n != len(plan) {
		t.Fatalf("Check(%v, %v): hour %d, error %d", p, plan, n, e)
	}
	return c
}

// mustCheapest returns the cheapest plan of compressors that have to have one, and sees that it costs what is told.
func mustCheapest(t *testing.T, p api.Presses) ([][]int, int) {
	t.Helper()
	plan, cost, e := press.Cheapest(p)
	if e != api.OK {
		t.Fatalf("Cheapest(%v): error %d", p, e)
	}
	if c := mustCheck(t, p, plan); sum(c) != cost {
		t.Fatalf("Cheapest(%v): %v costs %v, not %d", p, plan, c, cost)
	}
	return plan, cost
}

// mustBehind returns the compressors behind a plan that has to be possible.
func mustBehind(t *testing.T, p api.Presses, plan [][]int) api.Presses {
	t.Helper()
	b, e := press.Behind(p, plan)
	if e != api.OK {
		t.Fatalf("Behind(%v, %v): error %d", p, plan, e)
	}
	return b
}

// anyPresses returns so many compressors at most, for so many hours, with small numbers, so that many plans cost the same.
func anyPresses(rnd *rand.Rand, presses, hours int) api.Presses {
	p := api.Presses{Room: rnd.Intn(8), Peak: rnd.Intn(4), Free: rnd.Intn(8)}
	p.Stored = rnd.Intn(p.Room + 1)
	cold := 0
	for range 1 + rnd.Intn(presses) {
		q := api.Press{Start: rnd.Intn(5), Oil: 1 + rnd.Intn(5)}
		q.Least = 1 + rnd.Intn(q.Oil)
		q.On = rnd.Intn(q.Oil + 1)
		for range 1 + rnd.Intn(api.MaxLevels) {
			q.Levels = append(q.Levels, level(1+rnd.Intn(6), rnd.Intn(7)))
			cold += 2
		}
		p.Presses = append(p.Presses, q)
	}
	for range hours {
		p.Need = append(p.Need, rnd.Intn(cold+1))
		p.Price = append(p.Price, rnd.Intn(4))
	}
	return p
}

// model is compressors told once more, as the document words them, hour by hour.
type model struct {
	p      api.Presses
	hour   int
	runs   [api.MaxPresses]int
	stored int
	paid   int // for energy and starts
	power  int // the greatest one
}

func newModel(p api.Presses) model {
	m := model{p: p, stored: p.Stored}
	for i, q := range p.Presses {
		m.runs[i] = q.On
	}
	return m
}

// next returns the model behind an hour, or why it cannot be.
func (m model) next(list []int) (model, api.Errno) {
	power, cold := 0, 0
	for i, n := range list {
		q, k := m.p.Presses[i], m.runs[i]
		if n == 0 {
			if k != 0 && k < q.Least {
				return m, api.ErrRefuse
			}
			m.runs[i] = 0
			continue
		}
		if k >= q.Oil {
			return m, api.ErrRefuse
		}
		if k == 0 {
			m.paid += q.Start
		}
		m.runs[i] = k + 1
		power += q.Levels[n-1].Power
		cold += q.Levels[n-1].Cold
	}
	m.stored += cold - m.p.Need[m.hour]
	if m.stored < 0 {
		return m, api.ErrShort
	}
	if m.stored > m.p.Room {
		return m, api.ErrFull
	}
	m.paid += power * m.p.Price[m.hour]
	m.power = max(m.power, power)
	m.hour++
	return m, api.OK
}

// cost returns what is paid in all.
func (m model) cost() int {
	if m.power <= m.p.Free {
		return m.paid
	}
	return m.paid + (m.power-m.p.Free)*m.p.Peak
}

// lists returns all lists of an hour, in order.
func lists(p api.Presses) [][]int {
	all := [][]int{nil}
	for _, q := range p.Presses {
		var longer [][]int
		for _, l := range all {
			for n := 0; n <= len(q.Levels); n++ {
				longer = append(longer, append(slices.Clone(l), n))
			}
		}
		all = longer
	}
	return all
}

// outcome is a plan, what it costs, and whether there is one.
type outcome struct {
	plan  [][]int
	cost  int
	found bool
}

// tryAll returns the cheapest plan by trying every plan that can be.
func tryAll(m model) outcome {
	if m.hour == len(m.p.Need) {
		return outcome{cost: m.cost(), found: true}
	}
	var best outcome
	for _, l := range lists(m.p) {
		n, e := m.next(l)
		if e != api.OK {
			continue
		}
		if o := tryAll(n); o.found && (!best.found || o.cost < best.cost) {
			best = outcome{plan: append([][]int{l}, o.plan...), cost: o.cost, found: true}
		}
	}
	return best
}

// place is all of a model on which it depends what can still be, and what that costs.
type place struct {
	hour, stored, power int
	runs                [api.MaxPresses]int
}

// tryPlaces returns what tryAll returns, but tries no place twice.
func tryPlaces(m model, known map[place]outcome) outcome {
	if m.hour == len(m.p.Need) {
		return outcome{cost: m.cost(), found: true}
	}
	at := place{hour: m.hour, stored: m.stored, power: m.power, runs: m.runs}
	best, tried := known[at]
	if !tried {
		paid := m.paid
		m.paid = 0
		for _, l := range lists(m.p) {
			n, e := m.next(l)
			if e != api.OK {
				continue
			}
			if o := tryPlaces(n, known); o.found && (!best.found || o.cost < best.cost) {
				best = outcome{plan: append([][]int{l}, o.plan...), cost: o.cost, found: true}
			}
		}
		known[at] = best
		m.paid = paid
	}
	best.cost += m.paid
	return best
}
