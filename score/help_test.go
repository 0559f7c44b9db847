package score_test

import (
	"math"
	"math/big"
	"math/rand"
	"slices"
	"testing"

	"icehall/api"
	"icehall/score"
)

// odd is numbers that no range of the chapter contains, or that are at the end of one.
var odd = []int{math.MinInt, -6, -5, -1, 0, 1, 2, 3, 5, 6, 16, 17, 40, 41, 64, 99, 100, 600, 601, 1000, 1001, 2000, 2001, math.MaxInt}

// example returns the rules and the skating of the document's examples.
func example() (api.Rules, api.Skating) {
	r := api.Rules{Bases: []int{800, 500, 420}, Factor: 160, Most: 2}
	return r, api.Skating{
		Calls: []api.Called{
			call(1, 0, 2, 3, 1, 2, -1),
			{Place: 2, Element: 1, Under: 1, Late: true, Fall: true, Marks: []int{-5, -5, -4, -5, -3}},
			call(3, 2, 0, 0, 0, 0, 0),
		},
		Parts: [][]int{{28, 30, 29, 31, 27}, {24, 24, 24, 24, 24}, {26, 26, 25, 27, 40}},
		Over:  7,
	}
}

// call returns a call with marks, and without faults.
func call(place, element int, marks ...int) api.Called {
	return api.Called{Place: place, Element: element, Marks: marks}
}

// single returns a skating of one call of the first base, with marks.
func single(marks ...int) api.Skating {
	return api.Skating{Calls: []api.Called{call(0, 0, marks...)}}
}

// hundred returns rules with one base, 100.
func hundred() api.Rules { return api.Rules{Bases: []int{100}, Most: 1} }

// agreed returns skatings of one call each, for each of which all judges gave the same mark.
func agreed(judges int, marks ...int) []api.Skating {
	var l []api.Skating
	for _, m := range marks {
		l = append(l, single(slices.Repeat([]int{m}, judges)...))
	}
	return l
}

// broken is rules and a skating that are not valid together.
type broken struct {
	r api.Rules
	s api.Skating
}

// breaks returns what is not valid, by what is wrong with it.
func breaks() map[string]broken {
	all := map[string]broken{}
	for name, change := range map[string]func(r *api.Rules, s *api.Skating){
		"no bases":                     func(r *api.Rules, s *api.Skating) { r.Bases = nil },
		"no bases, and no calls":       func(r *api.Rules, s *api.Skating) { r.Bases, s.Calls = nil, nil },
		"65 bases":                     func(r *api.Rules, s *api.Skating) { r.Bases = make([]int, api.MaxBases+1) },
		"a base below 0":               func(r *api.Rules, s *api.Skating) { r.Bases[2] = -1 },
		"a base above MaxBase":         func(r *api.Rules, s *api.Skating) { r.Bases[0] = api.MaxBase + 1 },
		"factor below 0":               func(r *api.Rules, s *api.Skating) { r.Factor = -1 },
		"factor above MaxFactor":       func(r *api.Rules, s *api.Skating) { r.Factor = api.MaxFactor + 1 },
		"most 0":                       func(r *api.Rules, s *api.Skating) { r.Most = 0 },
		"most above MaxCalled":         func(r *api.Rules, s *api.Skating) { r.Most = api.MaxCalled + 1 },
		"rules only, nothing skated":   func(r *api.Rules, s *api.Skating) { r.Most, *s = -1, api.Skating{} },
		"17 calls":                     func(r *api.Rules, s *api.Skating) { s.Calls = calls(api.MaxCalled+1, 5) },
		"place below 0":                func(r *api.Rules, s *api.Skating) { s.Calls[0].Place = -1 },
		"place MaxPlaces":              func(r *api.Rules, s *api.Skating) { s.Calls[2].Place = api.MaxPlaces },
		"element below 0":              func(r *api.Rules, s *api.Skating) { s.Calls[1].Element = -1 },
		"element above all":            func(r *api.Rules, s *api.Skating) { s.Calls[1].Element = 3 },
		"under below 0":                func(r *api.Rules, s *api.Skating) { s.Calls[1].Under = -1 },
		"under above MaxUnder":         func(r *api.Rules, s *api.Skating) { s.Calls[2].Under = api.MaxUnder + 1 },
		"a grade below -5":             func(r *api.Rules, s *api.Skating) { s.Calls[0].Marks[4] = -api.MaxGrade - 1 },
		"a grade above 5":              func(r *api.Rules, s *api.Skating) { s.Calls[2].Marks[0] = api.MaxGrade + 1 },
		"a call without marks":         func(r *api.Rules, s *api.Skating) { s.Calls[2].Marks = nil },
		"a first call without marks":   func(r *api.Rules, s *api.Skating) { s.Calls[0].Marks = nil },
		"a call with a mark less":      func(r *api.Rules, s *api.Skating) { s.Calls[1].Marks = s.Calls[1].Marks[:4] },
		"a call with a mark more":      func(r *api.Rules, s *api.Skating) { s.Calls[1].Marks = append(s.Calls[1].Marks, 0) },
		"the first call with one less": func(r *api.Rules, s *api.Skating) { s.Calls[0].Marks = s.Calls[0].Marks[1:] },
		"the same place":               func(r *api.Rules, s *api.Skating) { s.Calls[2].Place = 1 },
		"the same place, side by side": func(r *api.Rules, s *api.Skating) { s.Calls[1].Place = 3 },
		"six parts":                    func(r *api.Rules, s *api.Skating) { s.Parts = slices.Repeat(s.Parts, 2) },
		"six parts, no calls":          func(r *api.Rules, s *api.Skating) { s.Calls, s.Parts = nil, make([][]int, api.MaxParts+1) },
		"a part's mark below 0":        func(r *api.Rules, s *api.Skating) { s.Parts[1][3] = -1 },
		"a part's mark above 40":       func(r *api.Rules, s *api.Skating) { s.Parts[2][4] = api.MaxQuarters + 1 },
		"a part without marks":         func(r *api.Rules, s *api.Skating) { s.Parts[1] = nil },
		"a part with a mark less":      func(r *api.Rules, s *api.Skating) { s.Parts[0] = s.Parts[0][:4] },
		"a part with a mark more":      func(r *api.Rules, s *api.Skating) { s.Parts[2] = append(s.Parts[2], 0) },
		"parts only, with marks of 4":  func(r *api.Rules, s *api.Skating) { s.Calls, s.Parts[0] = nil, s.Parts[0][:4] },
		"parts only, without marks":    func(r *api.Rules, s *api.Skating) { s.Calls, s.Parts = nil, [][]int{{}} },
		"over below 0":                 func(r *api.Rules, s *api.Skating) { s.Over = -1 },
		"over above MaxOver":           func(r *api.Rules, s *api.Skating) { s.Over = api.MaxOver + 1 },
		"over only":                    func(r *api.Rules, s *api.Skating) { *s = api.Skating{Over: -1} },
		"ten judges":                   func(r *api.Rules, s *api.Skating) { *s = single(make([]int, api.MaxPanel+1)...) },
		"ten judges, parts only":       func(r *api.Rules, s *api.Skating) { *s = api.Skating{Parts: [][]int{make([]int, 10)}} },
		"only numbers that are too small": func(r *api.Rules, s *api.Skating) {
			m := math.MinInt
			*r = api.Rules{Bases: []int{m}, Factor: m, Most: m}
			*s = api.Skating{Calls: []api.Called{{Place: m, Element: m, Under: m, Marks: []int{m}}}, Parts: [][]int{{m}}, Over: m}
		},
	} {
		var b broken
		b.r, b.s = example()
		change(&b.r, &b.s)
		all[name] = b
	}
	return all
}

// contest is rules and skatings, and what is wrong with them.
type contest struct {
	r api.Rules
	l []api.Skating
	e api.Errno
}

// badContests returns contests that are not valid, or too long, by what is wrong with them.
func badContests() map[string]contest {
	r, s := example()
	many := make([]api.Skating, api.MaxSkatings+1)
	bad := map[string]contest{
		"too many":                       {r, many, api.ErrLong},
		"too many, and no rules":         {api.Rules{}, many, api.ErrLong},
		"too many, and one not valid":    {r, append(many[1:], api.Skating{Over: -1}), api.ErrLong},
		"no rules, no skater":            {api.Rules{}, nil, api.ErrArg},
		"no rules, nobody has marks":     {api.Rules{}, []api.Skating{{}, {}}, api.ErrArg},
		"other numbers of judges":        {r, append(agreed(3, 0), agreed(4, 0)...), api.ErrArg},
		"the first has fewer judges":     {r, []api.Skating{single(0), s}, api.ErrArg},
		"parts with fewer judges":        {r, []api.Skating{s, {Parts: [][]int{{1, 1, 1, 1}}}}, api.ErrArg},
		"calls with fewer judges":        {r, []api.Skating{{Parts: s.Parts}, single(1, 1, 1, 1)}, api.ErrArg},
		"none, and then ten judges":      {r, append([]api.Skating{{}}, agreed(10, 0)...), api.ErrArg},
		"none, and then no judge":        {r, []api.Skating{{}, {Parts: [][]int{{}}}}, api.ErrArg},
		"calls without marks, then some": {r, []api.Skating{single(), single(1)}, api.ErrArg},
	}
	for name, b := range breaks() {
		good := api.Skating{Over: 1}
		bad[name+", alone"] = contest{b.r, []api.Skating{b.s}, api.ErrArg}
		bad[name+", behind another"] = contest{b.r, []api.Skating{good, b.s}, api.ErrArg}
		bad[name+", ahead of another"] = contest{b.r, []api.Skating{b.s, good}, api.ErrArg}
	}
	return bad
}

// calls returns n calls of the first base, with marks 0.
func calls(n, judges int) []api.Called {
	var l []api.Called
	for i := range n {
		l = append(l, call(i, 0, make([]int, judges)...))
	}
	return l
}

// clone returns the same skating in memory of its own.
func clone(s api.Skating) api.Skating {
	s.Calls = slices.Clone(s.Calls)
	for i, c := range s.Calls {
		s.Calls[i].Marks = slices.Clone(c.Marks)
	}
	s.Parts = slices.Clone(s.Parts)
	for i, marks := range s.Parts {
		s.Parts[i] = slices.Clone(marks)
	}
	return s
}

// cloneAll returns the same skatings in memory of their own.
func cloneAll(l []api.Skating) []api.Skating {
	l = slices.Clone(l)
	for i, s := range l {
		l[i] = clone(s)
	}
	return l
}

// anyRules returns valid rules with few small bases, so that much is rounded and much is the same.
func anyRules(rnd *rand.Rand) api.Rules {
	r := api.Rules{Factor: rnd.Intn(20), Most: 1 + rnd.Intn(3)}
	if rnd.Intn(4) == 0 {
		r.Factor = rnd.Intn(api.MaxFactor + 1)
	}
	for range 1 + rnd.Intn(4) {
		base := rnd.Intn(40)
		if rnd.Intn(4) == 0 {
			base = rnd.Intn(api.MaxBase + 1)
		}
		r.Bases = append(r.Bases, base)
	}
	return r
}

// anySkating returns a valid skating with so many calls and parts at most.
func anySkating(rnd *rand.Rand, r api.Rules, judges, callCount, partCount int) api.Skating {
	var s api.Skating
	places := rnd.Perm(api.MaxPlaces)
	for i := range rnd.Intn(callCount + 1) {
		c := call(places[i], rnd.Intn(len(r.Bases)), anyMarks(rnd, judges, -api.MaxGrade, api.MaxGrade)...)
		c.Under, c.Late, c.Fall = max(0, rnd.Intn(5)-2), rnd.Intn(3) == 0, rnd.Intn(3) == 0
		s.Calls = append(s.Calls, c)
	}
	for range rnd.Intn(partCount + 1) {
		s.Parts = append(s.Parts, anyMarks(rnd, judges, 0, api.MaxQuarters))
	}
	if rnd.Intn(2) == 0 {
		s.Over = rnd.Intn(12)
	}
	return s
}

// anyMarks returns a mark of each judge; often they lie close together.
func anyMarks(rnd *rand.Rand, judges, least, most int) []int {
	middle, wide := least+rnd.Intn(most-least+1), rnd.Intn(most-least+1)
	l := make([]int, judges)
	for i := range l {
		l[i] = min(max(middle+rnd.Intn(wide+1)-wide/2, least), most)
	}
	return l
}

// anyContest returns valid skatings of so many skaters at most, all for the same number of judges.
func anyContest(rnd *rand.Rand, r api.Rules, judges, skaterCount, callCount, partCount int) []api.Skating {
	var l []api.Skating
	for range rnd.Intn(skaterCount + 1) {
		l = append(l, anySkating(rnd, r, judges, callCount, partCount))
	}
	return l
}

// hasMarks returns whether there is any mark in skatings.
func hasMarks(l []api.Skating) bool {
	return slices.ContainsFunc(l, func(s api.Skating) bool { return len(s.Calls)+len(s.Parts) > 0 })
}

// nearest returns the nearest whole number of a fraction, of two the one that is farther from 0: it tries the numbers around it.
func nearest(num, den int) int {
	exact := big.NewRat(int64(num), int64(den))
	floor := int(math.Floor(float64(num) / float64(den)))
	found := floor - 2
	for n := floor - 2; n <= floor+2; n++ {
		far := func(n int) *big.Rat { d := new(big.Rat).Sub(big.NewRat(int64(n), 1), exact); return d.Abs(d) }
		switch far(n).Cmp(far(found)) {
		case -1:
			found = n
		case 0:
			if n*n > found*found {
				found = n
			}
		}
	}
	return found
}

// counted returns the sum of the marks that count, and how many there are.
func counted(marks []int) (sum, number int) {
	least, most := marks[0], marks[0]
	for _, m := range marks {
		sum += m
		least, most = min(least, m), max(most, m)
	}
	if len(marks) < 5 {
		return sum, len(marks)
	}
	return sum - least - most, len(marks) - 2
}

// valuesBy returns the value of each call of a valid skating, by the words of the chapter.
func valuesBy(r api.Rules, s api.Skating) []int {
	l := []int{}
	for _, c := range s.Calls {
		ahead := 0
		for _, d := range s.Calls {
			if d.Element == c.Element && d.Place < c.Place {
				ahead++
			}
		}
		b, u, late := r.Bases[c.Element], 10-2*c.Under, 10
		if c.Late {
			late = 11
		}
		sum, number := counted(c.Marks)
		value := nearest(b*u*late, 100) + nearest(sum*b*u, 100*number)
		if ahead >= r.Most {
			value = 0
		}
		l = append(l, value)
	}
	return l
}

// scoreBy returns the score of a valid skating, by the words of the chapter.
func scoreBy(r api.Rules, s api.Skating) api.Score {
	var p api.Score
	for _, v := range valuesBy(r, s) {
		p.Elements += v
	}
	for _, marks := range s.Parts {
		sum, number := counted(marks)
		p.Parts += nearest(sum*r.Factor, 4*number)
	}
	falls := 0
	for _, c := range s.Calls {
		if c.Fall {
			falls++
			p.Off += []int{0, 100, 100, 200, 200}[min(falls, 4)]
			if falls > 4 {
				p.Off += 100
			}
		}
	}
	for second := 0; second < s.Over; second += 5 {
		p.Off += 100
	}
	p.Total = max(0, p.Elements+p.Parts-p.Off)
	return p
}

// isBetter returns whether a score is better than another one, by the words of the chapter.
func isBetter(a, b api.Score) bool {
	return a.Total > b.Total || a.Total == b.Total && a.Elements > b.Elements
}

// placesBy returns each one's place, by the words of the chapter.
func placesBy(l []api.Score) []int {
	places := make([]int, len(l))
	for i := range l {
		places[i] = 1
		for _, other := range l {
			if isBetter(other, l[i]) {
				places[i]++
			}
		}
	}
	return places
}

// mustScore returns the score of a skating.
func mustScore(t *testing.T, r api.Rules, s api.Skating) api.Score {
	t.Helper()
	p, e := score.Program(r, s)
	if e != api.OK {
		t.Fatalf("Program(%v, %v): error %d", r, s, e)
	}
	return p
}

// mustValues returns the values of the calls of a skating.
func mustValues(t *testing.T, r api.Rules, s api.Skating) []int {
	t.Helper()
	l, e := score.Values(r, s)
	if e != api.OK || len(l) != len(s.Calls) {
		t.Fatalf("Values(%v, %v): %v, error %d", r, s, l, e)
	}
	return l
}

// mustRank returns the places of scores.
func mustRank(t *testing.T, l []api.Score) []int {
	t.Helper()
	places, e := score.Ranks(l)
	if e != api.OK || len(places) != len(l) {
		t.Fatalf("Ranks(%v): %v, error %d", l, places, e)
	}
	return places
}

// mustSwing returns from which place to which one a judge could have moved each skater.
func mustSwing(t *testing.T, r api.Rules, l []api.Skating, judge int) []api.Span {
	t.Helper()
	spans, e := score.Swing(r, l, judge)
	if e != api.OK || len(spans) != len(l) {
		t.Fatalf("Swing(%v, %v, %d): %v, error %d", r, l, judge, spans, e)
	}
	return spans
}

// mustOpen returns who can be among the first and behind them by one judge.
func mustOpen(t *testing.T, r api.Rules, l []api.Skating, first int) []int {
	t.Helper()
	open, e := score.Open(r, l, first)
	if e != api.OK {
		t.Fatalf("Open(%v, %v, %d): error %d", r, l, first, e)
	}
	return open
}

// placesOf returns the places of the skaters of a contest.
func placesOf(t *testing.T, r api.Rules, l []api.Skating) []int {
	t.Helper()
	var all []api.Score
	for _, s := range l {
		all = append(all, mustScore(t, r, s))
	}
	return mustRank(t, all)
}

// marksOf returns where the marks of a judge stand, of the calls and of the parts of skatings.
func marksOf(l []api.Skating, judge int) (grades, quarters []*int) {
	for _, s := range l {
		for _, c := range s.Calls {
			grades = append(grades, &c.Marks[judge])
		}
		for _, marks := range s.Parts {
			quarters = append(quarters, &marks[judge])
		}
	}
	return grades, quarters
}
