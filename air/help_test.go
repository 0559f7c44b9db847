package air_test

import (
	"math"
	"math/rand"
	"slices"
	"testing"

	"icehall/air"
	"icehall/api"
)

// odd is numbers that no range of the chapter contains, or that are at the end of one.
var odd = []int{
	math.MinInt, -api.MaxTenth - 1, -api.MaxTenth, -1, 0, 1, api.MaxTenth, api.MaxTenth + 1, api.Whole, api.Whole + 1, api.MaxPeople, api.MaxPeople + 1,
	api.MaxHold, api.MaxHold + 1, api.MaxRoom, api.MaxRoom + 1, api.MaxSteam, api.MaxSteam + 1, api.MaxWet, api.MaxWet + 1, math.MaxInt,
}

func span(lo, hi int) api.Span { return api.Span{Lo: lo, Hi: hi} }

// example returns the air of the document's examples.
func example() api.Air {
	return api.Air{Room: 10, Temps: []int{-50, 0, 100}, Holds: []int{3000, 5000, 9500}, Breath: span(2, 3)}
}

// exampleWater is the water of the document's examples.
var exampleWater = span(40000, 41000)

// exampleSteps returns the steps of the document's examples.
func exampleSteps() []api.Step {
	return []api.Step{
		{Cold: -25, People: 100, Change: 100, Outer: span(4000, 5000), Steam: span(500, 900), Dryer: 3000},
		{Cold: -50, Dryer: 2000},
	}
}

// badAirs returns air that is not valid, by what is wrong with it.
func badAirs() map[string]api.Air {
	bad := map[string]api.Air{"nothing": {}}
	for name, change := range map[string]func(a *api.Air){
		"room 0":                   func(a *api.Air) { a.Room = 0 },
		"room below 0":             func(a *api.Air) { a.Room = math.MinInt },
		"room above MaxRoom":       func(a *api.Air) { a.Room = api.MaxRoom + 1 },
		"nil curve":                func(a *api.Air) { a.Temps, a.Holds = nil, nil },
		"empty curve":              func(a *api.Air) { a.Temps, a.Holds = []int{}, []int{} },
		"no temperatures":          func(a *api.Air) { a.Temps = nil },
		"no holds":                 func(a *api.Air) { a.Holds = nil },
		"fewer holds":              func(a *api.Air) { a.Holds = a.Holds[:2] },
		"more holds":               func(a *api.Air) { a.Temps = a.Temps[:2] },
		"33 temperatures":          func(a *api.Air) { a.Temps, a.Holds = curve(api.MaxCurve + 1) },
		"a temperature too low":    func(a *api.Air) { a.Temps[0] = -api.MaxTenth - 1 },
		"a temperature too high":   func(a *api.Air) { a.Temps[2] = api.MaxTenth + 1 },
		"temperatures fall":        func(a *api.Air) { a.Temps[1] = -51 },
		"temperatures do not rise": func(a *api.Air) { a.Temps[2] = 0 },
		"a hold of 0":              func(a *api.Air) { a.Holds[0] = 0 },
		"a hold above MaxHold":     func(a *api.Air) { a.Holds[2] = api.MaxHold + 1 },
		"holds fall":               func(a *api.Air) { a.Holds[2] = 4999 },
		"breath below 0":           func(a *api.Air) { a.Breath.Lo = -1 },
		"breath above MaxBreath":   func(a *api.Air) { a.Breath.Hi = api.MaxBreath + 1 },
		"breath falls":             func(a *api.Air) { a.Breath = span(3, 2) },
	} {
		a := example()
		change(&a)
		bad[name] = a
	}
	return bad
}

// badWaters returns water that is not valid, by what is wrong with it.
func badWaters() map[string]api.Span {
	return map[string]api.Span{
		"water below 0":      span(-1, 5),
		"water above MaxWet": span(5, api.MaxWet+1),
		"water falls":        span(6, 5),
		"water of any size":  span(math.MinInt, math.MaxInt),
	}
}

// badSteps returns steps that are not valid for the air of the examples, by what is wrong with them.
func badSteps() map[string]api.Step {
	bad := map[string]api.Step{}
	for name, change := range map[string]func(s *api.Step){
		"cold below the curve":   func(s *api.Step) { s.Cold = -51 },
		"cold above the curve":   func(s *api.Step) { s.Cold = 101 },
		"a far cold":             func(s *api.Step) { s.Cold = math.MinInt },
		"people below 0":         func(s *api.Step) { s.People = -1 },
		"people above MaxPeople": func(s *api.Step) { s.People = api.MaxPeople + 1 },
		"change below 0":         func(s *api.Step) { s.Change = -1 },
		"change above all":       func(s *api.Step) { s.Change = api.Whole + 1 },
		"outer below 0":          func(s *api.Step) { s.Outer = span(-1, 5) },
		"outer above MaxHold":    func(s *api.Step) { s.Outer = span(5, api.MaxHold+1) },
		"outer falls":            func(s *api.Step) { s.Outer = span(6, 5) },
		"steam below 0":          func(s *api.Step) { s.Steam = span(-1, 5) },
		"steam above MaxSteam":   func(s *api.Step) { s.Steam = span(5, api.MaxSteam+1) },
		"steam falls":            func(s *api.Step) { s.Steam = span(6, 5) },
		"dryer below 0":          func(s *api.Step) { s.Dryer = -1 },
		"dryer above MaxSteam":   func(s *api.Step) { s.Dryer = api.MaxSteam + 1 },
	} {
		s := exampleSteps()[0]
		change(&s)
		bad[name] = s
	}
	return bad
}

// curve returns n temperatures, and what the air holds at them.
func curve(n int) (temps, holds []int) {
	for i := range n {
		temps, holds = append(temps, 10*i-160), append(holds, 100+i*i)
	}
	return temps, holds
}

// same returns whether two airs are the same.
func same(a, b api.Air) bool {
	return a.Room == b.Room && slices.Equal(a.Temps, b.Temps) && slices.Equal(a.Holds, b.Holds) && a.Breath == b.Breath
}

// somewhere returns a number of a span.
func somewhere(rnd *rand.Rand, s api.Span) int { return s.Lo + rnd.Intn(s.Hi-s.Lo+1) }

// inside returns whether a number is in a span.
func inside(n int, s api.Span) bool { return s.Lo <= n && n <= s.Hi }

// contains returns whether a span is not wider than another one anywhere.
func contains(wide, s api.Span) bool { return wide.Lo <= s.Lo && s.Hi <= wide.Hi }

// anySpan returns a span within 0 to most, at most wide numbers apart.
func anySpan(rnd *rand.Rand, most, wide int) api.Span {
	lo := rnd.Intn(most + 1)
	return span(lo, min(most, lo+rnd.Intn(wide+1)))
}

// anyPart returns a span within another one.
func anyPart(rnd *rand.Rand, s api.Span) api.Span {
	a, b := somewhere(rnd, s), somewhere(rnd, s)
	return span(min(a, b), max(a, b))
}

// anyAir returns air with small numbers.
func anyAir(rnd *rand.Rand) api.Air {
	a := api.Air{Room: 1 + rnd.Intn(3), Breath: anySpan(rnd, 2, 1)}
	temp, hold := rnd.Intn(9)-9, 1+rnd.Intn(4)
	for range 1 + rnd.Intn(4) {
		a.Temps, a.Holds = append(a.Temps, temp), append(a.Holds, hold)
		temp += 1 + rnd.Intn(6)
		hold += rnd.Intn(6)
	}
	return a
}

// anySteps returns at most so many steps for air with small numbers.
func anySteps(rnd *rand.Rand, a api.Air, most int) []api.Step {
	l := make([]api.Step, rnd.Intn(most+1))
	for i := range l {
		l[i] = api.Step{
			Cold:   somewhere(rnd, span(a.Temps[0], a.Temps[len(a.Temps)-1])),
			People: rnd.Intn(2),
			Change: []int{0, 1, 150, 500, 999, 1000, rnd.Intn(api.Whole + 1)}[rnd.Intn(7)],
			Outer:  anySpan(rnd, 6, 1),
			Steam:  anySpan(rnd, 6, 1),
			Dryer:  rnd.Intn(5),
		}
	}
	return l
}

// anyGreatSteps returns air and steps with numbers of any size.
func anyGreatSteps(rnd *rand.Rand) (api.Air, []api.Step) {
	temps, holds := curve(1 + rnd.Intn(api.MaxCurve))
	for i := range holds {
		holds[i] *= 90
	}
	a := api.Air{Room: 1 + rnd.Intn(api.MaxRoom), Temps: temps, Holds: holds, Breath: anySpan(rnd, api.MaxBreath, api.MaxBreath)}
	l := make([]api.Step, rnd.Intn(9))
	for i := range l {
		l[i] = api.Step{
			Cold:   somewhere(rnd, span(temps[0], temps[len(temps)-1])),
			People: rnd.Intn(api.MaxPeople>>rnd.Intn(12) + 1),
			Change: rnd.Intn(api.Whole + 1),
			Outer:  anySpan(rnd, api.MaxHold, api.MaxHold),
			Steam:  anySpan(rnd, api.MaxSteam>>rnd.Intn(16), api.MaxSteam),
			Dryer:  rnd.Intn(api.MaxSteam + 1),
		}
	}
	return a, l
}

// mustRun runs steps that have to end well.
func mustRun(t *testing.T, a api.Air, w api.Span, l []api.Step) (api.Span, api.Moisture) {
	t.Helper()
	end, m, e := air.Run(a, w, l)
	if e != api.OK {
		t.Fatalf("Run(%v, %v, %v): error %d", a, w, l, e)
	}
	return end, m
}

// mustRust returns in how many steps the air is too wet.
func mustRust(t *testing.T, a api.Air, w api.Span, l []api.Step, limit int) api.Span {
	t.Helper()
	s, e := air.Rust(a, w, l, limit)
	if e != api.OK {
		t.Fatalf("Rust(%v, %v, %v, %d): error %d", a, w, l, limit, e)
	}
	return s
}

// mustHold returns how much the air holds.
func mustHold(t *testing.T, a api.Air, temp int) int {
	t.Helper()
	n, e := air.Holds(a, temp)
	if e != api.OK {
		t.Fatalf("Holds(%v, %d): error %d", a, temp, e)
	}
	return n
}
