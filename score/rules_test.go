package score_test

import (
	"math/rand"
	"reflect"
	"slices"
	"testing"

	"icehall/api"
	"icehall/score"
)

// R7: what is at the end of its range is valid.
func TestJustValid(t *testing.T) {
	for name, change := range map[string]func(r *api.Rules, s *api.Skating){
		"one base": func(r *api.Rules, s *api.Skating) {
			r.Bases = []int{7}
			s.Calls[1].Element, s.Calls[2].Element = 0, 0
		},
		"64 bases":             func(r *api.Rules, s *api.Skating) { r.Bases = make([]int, api.MaxBases) },
		"the last of 64 bases": func(r *api.Rules, s *api.Skating) { r.Bases, s.Calls[1].Element = make([]int, api.MaxBases), 63 },
		"bases 0 and MaxBase":  func(r *api.Rules, s *api.Skating) { r.Bases[0], r.Bases[2] = 0, api.MaxBase },
		"factor 0":             func(r *api.Rules, s *api.Skating) { r.Factor = 0 },
		"factor MaxFactor":     func(r *api.Rules, s *api.Skating) { r.Factor = api.MaxFactor },
		"most 1":               func(r *api.Rules, s *api.Skating) { r.Most = 1 },
		"most MaxCalled":       func(r *api.Rules, s *api.Skating) { r.Most = api.MaxCalled },
		"16 calls":             func(r *api.Rules, s *api.Skating) { s.Calls = calls(api.MaxCalled, 5) },
		"no calls":             func(r *api.Rules, s *api.Skating) { s.Calls = nil },
		"places 0 and 99":      func(r *api.Rules, s *api.Skating) { s.Calls[0].Place, s.Calls[1].Place = 99, 0 },
		"under MaxUnder":       func(r *api.Rules, s *api.Skating) { s.Calls[0].Under = api.MaxUnder },
		"grades -5 and 5":      func(r *api.Rules, s *api.Skating) { s.Calls[0].Marks[0], s.Calls[2].Marks[4] = -5, 5 },
		"five parts":           func(r *api.Rules, s *api.Skating) { s.Parts = append(s.Parts, s.Parts[0], s.Parts[1]) },
		"no parts":             func(r *api.Rules, s *api.Skating) { s.Parts = nil },
		"quarters 0 and 40":    func(r *api.Rules, s *api.Skating) { s.Parts[0][0], s.Parts[2][4] = 0, api.MaxQuarters },
		"over 0":               func(r *api.Rules, s *api.Skating) { s.Over = 0 },
		"over MaxOver":         func(r *api.Rules, s *api.Skating) { s.Over = api.MaxOver },
		"one judge":            func(r *api.Rules, s *api.Skating) { *s = single(3) },
		"nine judges":          func(r *api.Rules, s *api.Skating) { *s = single(make([]int, api.MaxPanel)...) },
		"one judge of a part":  func(r *api.Rules, s *api.Skating) { *s = api.Skating{Parts: [][]int{{3}}} },
		"nothing skated":       func(r *api.Rules, s *api.Skating) { *s = api.Skating{} },
	} {
		r, s := example()
		change(&r, &s)
		if p, want := mustScore(t, r, s), scoreBy(r, s); p != want {
			t.Errorf("%s: %v, not %v", name, p, want)
		}
		if l, want := mustValues(t, r, s), valuesBy(r, s); !slices.Equal(l, want) {
			t.Errorf("%s: %v, not %v", name, l, want)
		}
		l := slices.Repeat([]api.Skating{s}, api.MaxSkatings)
		mustOpen(t, r, l, api.MaxSkatings)
		if hasMarks(l) {
			mustSwing(t, r, l, 0)
		}
	}
}

// R3: nil and empty lists are the same.
func TestNilAndEmpty(t *testing.T) {
	r, _ := example()
	for _, s := range []api.Skating{{}, {Calls: []api.Called{}, Parts: [][]int{}}} {
		if p := mustScore(t, r, s); p != (api.Score{}) {
			t.Error(p)
		}
		mustValues(t, r, s)
		if l := mustOpen(t, r, []api.Skating{s, s}, 1); len(l) != 0 {
			t.Error(l)
		}
		if _, e := score.Swing(r, []api.Skating{s}, 0); e != api.ErrRange {
			t.Error(e)
		}
	}
	for _, l := range [][]api.Skating{nil, {}} {
		if _, e := score.Swing(r, l, 0); e != api.ErrRange {
			t.Error(e)
		}
		if open := mustOpen(t, r, l, 1); len(open) != 0 {
			t.Error(open)
		}
	}
	mustRank(t, nil)
	mustRank(t, []api.Score{})
	for _, marks := range [][]int{nil, {}} {
		if _, e := score.Program(r, single(marks...)); e != api.ErrArg {
			t.Error(e)
		}
	}
	if _, e := score.Program(api.Rules{Bases: []int{}, Most: 1}, api.Skating{}); e != api.ErrArg {
		t.Error(e)
	}
}

// R4: no argument is changed, with an error or without one.
func TestArgumentsStay(t *testing.T) {
	rnd := rand.New(rand.NewSource(84))
	for range 500 {
		r := anyRules(rnd)
		l := anyContest(rnd, r, 1+rnd.Intn(api.MaxPanel), 6, 5, 3)
		l = append(l, api.Skating{Over: rnd.Intn(2) * 601})
		scores := []api.Score{{Total: 1}, {Total: 3, Elements: 1}, {Total: 2, Off: 2}}
		rules, skatings := api.Rules{Bases: slices.Clone(r.Bases), Factor: r.Factor, Most: r.Most}, cloneAll(l)
		for _, s := range l {
			score.Program(r, s)
			score.Values(r, s)
		}
		score.Ranks(scores)
		score.Swing(r, l, 0)
		score.Open(r, l, 1)
		if !reflect.DeepEqual(r, rules) || !reflect.DeepEqual(l, skatings) {
			t.Fatal("an argument was changed", r, l)
		}
		if !slices.Equal(scores, []api.Score{{Total: 1}, {Total: 3, Elements: 1}, {Total: 2, Off: 2}}) {
			t.Fatal("scores were changed", scores)
		}
	}
}

// R4: results are new memory: a change of one is seen in no other one.
func TestResultsAreNew(t *testing.T) {
	r, s := example()
	l := agreed(4, 0, 2, 5)
	for range 2 {
		values, places := mustValues(t, r, s), mustRank(t, []api.Score{{Total: 1}, {Total: 3}, {Total: 2}})
		spans, open := mustSwing(t, hundred(), l, 0), mustOpen(t, hundred(), l, 1)
		if !slices.Equal(values, []int{933, 253, 420}) || !slices.Equal(places, []int{3, 1, 2}) || !slices.Equal(open, []int{1, 2}) ||
			!slices.Equal(spans, []api.Span{{Lo: 2, Hi: 3}, {Lo: 1, Hi: 3}, {Lo: 1, Hi: 2}}) {
			t.Error(values, places, spans, open)
		}
		for _, list := range [][]int{values, places, open} {
			for i := range list {
				list[i] = 77
			}
		}
		clear(spans)
	}
}

// P1 and R2: whatever is given, each function ends without a panic, and returns nothing with an error.
func TestAnyArguments(t *testing.T) {
	rnd := rand.New(rand.NewSource(85))
	number := func() int { return odd[rnd.Intn(len(odd))] }
	good, bad := 0, 0
	for range 20000 {
		r, judges := anyRules(rnd), 1+rnd.Intn(api.MaxPanel)
		l := anyContest(rnd, r, judges, 4, 3, 2)
		spoil(rnd, number, &r, l)
		var s api.Skating
		if len(l) > 0 {
			s = l[rnd.Intn(len(l))]
		}
		p, e := score.Program(r, s)
		if e != api.OK && (e != api.ErrArg || p != (api.Score{})) {
			t.Fatal("Program", r, s, p, e)
		}
		values, f := score.Values(r, s)
		if f != e || e != api.OK && len(values) != 0 || e == api.OK && len(values) != len(s.Calls) {
			t.Fatal("Values", r, s, values, f)
		}
		spans, e := score.Swing(r, l, number())
		if e != api.OK && len(spans) != 0 || e == api.OK && len(spans) != len(l) {
			t.Fatal("Swing", r, l, spans, e)
		}
		open, e := score.Open(r, l, number())
		if e != api.OK && len(open) != 0 || !slices.IsSorted(open) {
			t.Fatal("Open", r, l, open, e)
		}
		if e == api.OK {
			good++
		} else {
			bad++
		}
		scores := []api.Score{{Elements: number(), Parts: number(), Off: number(), Total: number()}, {Elements: number(), Total: number()}}
		if places := mustRank(t, scores); !slices.Equal(places, placesBy(scores)) {
			t.Fatal("Ranks", scores, places)
		}
	}
	if good < 2000 || bad < 2000 {
		t.Error("too few contests that are valid, or that are not", good, bad)
	}
}

// spoil changes something of rules or of a contest, or nothing.
func spoil(rnd *rand.Rand, number func() int, r *api.Rules, l []api.Skating) {
	switch n := rnd.Intn(12); {
	case n == 0:
		r.Factor = number()
	case n == 1:
		r.Most = number()
	case n == 2:
		r.Bases[rnd.Intn(len(r.Bases))] = number()
	case n == 3:
		r.Bases = r.Bases[:rnd.Intn(len(r.Bases))]
	}
	for i, s := range l {
		if rnd.Intn(12) == 0 {
			l[i].Over = number()
		}
		for k, c := range s.Calls {
			switch n := rnd.Intn(30); {
			case n == 0:
				s.Calls[k].Place = number()
			case n == 1:
				s.Calls[k].Element = number()
			case n == 2:
				s.Calls[k].Under = number()
			case n == 3:
				s.Calls[k].Marks = c.Marks[1:]
			case n == 4:
				c.Marks[0] = number()
			}
		}
		for k, marks := range s.Parts {
			switch n := rnd.Intn(30); {
			case n == 0:
				marks[0] = number()
			case n == 1:
				s.Parts[k] = nil
			}
		}
	}
}
