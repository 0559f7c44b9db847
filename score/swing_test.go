package score_test

import (
	"math"
	"math/rand"
	"slices"
	"testing"

	"icehall/api"
	"icehall/score"
)

// P7.4: the examples of the document, and other contests.
func TestSwing(t *testing.T) {
	span := func(lo, hi int) api.Span { return api.Span{Lo: lo, Hi: hi} }
	with := func(s api.Skating, over int, parts ...[]int) api.Skating {
		s.Over, s.Parts = over, parts
		return s
	}
	parted := api.Rules{Bases: []int{100}, Factor: 4, Most: 1}
	for name, c := range map[string]struct {
		r     api.Rules
		l     []api.Skating
		judge int
		want  []api.Span
	}{
		"three judges":              {hundred(), agreed(3, 0, 1, 3), 2, []api.Span{span(1, 3), span(1, 3), span(1, 3)}},
		"five judges who agree":     {hundred(), agreed(5, 0, 1, 3), 0, []api.Span{span(3, 3), span(2, 2), span(1, 1)}},
		"four judges":               {hundred(), agreed(4, 0, 2, 5), 3, []api.Span{span(2, 3), span(1, 3), span(1, 2)}},
		"five judges, all as good":  {hundred(), agreed(5, 2, 2), 4, []api.Span{span(1, 1), span(1, 1)}},
		"one judge":                 {hundred(), agreed(1, -5, 5, 0), 0, []api.Span{span(1, 3), span(1, 3), span(1, 3)}},
		"one skater":                {hundred(), agreed(1, 4), 0, []api.Span{span(1, 1)}},
		"as good at most":           {hundred(), []api.Skating{with(single(5), 1), single(-5)}, 0, []api.Span{span(1, 2), span(1, 2)}},
		"too far behind":            {hundred(), []api.Skating{with(single(5), 6), single(-5)}, 0, []api.Span{span(2, 2), span(1, 1)}},
		"nothing is worth anything": {api.Rules{Bases: []int{0}, Most: 1}, agreed(1, 1, 2, 3), 0, []api.Span{span(1, 1), span(1, 1), span(1, 1)}},
		"who has no marks":          {hundred(), []api.Skating{{}, single(0), {Over: 9}}, 0, []api.Span{span(2, 2), span(1, 1), span(2, 2)}},
		"parts alone":               {parted, []api.Skating{with(api.Skating{}, 0, []int{40, 0}), with(api.Skating{}, 0, []int{10, 40})}, 1, []api.Span{span(1, 2), span(1, 2)}},
		"parts alone, other judge":  {parted, []api.Skating{with(api.Skating{}, 0, []int{20, 0}), with(api.Skating{}, 0, []int{10, 40})}, 0, []api.Span{span(1, 2), span(1, 1)}},
		"parts, too far apart":      {parted, []api.Skating{with(api.Skating{}, 0, []int{40, 40, 0}), with(api.Skating{}, 0, []int{0, 10, 0})}, 2, []api.Span{span(1, 1), span(2, 2)}},
		"Total 0, then Elements":    {hundred(), []api.Skating{with(single(0), 600), with(single(0), 600)}, 0, []api.Span{span(1, 2), span(1, 2)}},
		"Total 0, only parts move":  {parted, []api.Skating{with(api.Skating{}, 600, []int{0}), with(api.Skating{}, 600, []int{9})}, 0, []api.Span{span(1, 1), span(1, 1)}},
		"a call that does not count": {hundred(), []api.Skating{
			{Calls: []api.Called{call(2, 0, 0, 0, 0, 5, 5), call(1, 0, 1, 1, 1, 1, 1)}},
			{Calls: []api.Called{call(0, 0, 0, 0, 0, 0, 0)}},
		}, 0, []api.Span{span(1, 1), span(2, 2)}},
	} {
		if l := mustSwing(t, c.r, c.l, c.judge); !slices.Equal(l, c.want) {
			t.Errorf("%s: %v", name, l)
		}
	}
}

// P7.4: each judge has a swing of the own.
func TestSwingOfEach(t *testing.T) {
	r := hundred()
	l := []api.Skating{single(5, 0, 0, 0, 0), single(0, 1, 0, 1, 1)}
	// The first judge cannot move the first skater, to whom all others gave 0; each of the others can.
	for judge := range 5 {
		want := swingBy(t, r, l, judge)
		if got := mustSwing(t, r, l, judge); !slices.Equal(got, want) {
			t.Errorf("judge %d: %v, not %v", judge, got, want)
		}
	}
	if a, b := mustSwing(t, r, l, 0), mustSwing(t, r, l, 1); slices.Equal(a, b) {
		t.Error("the first two judges can do the same", a, b)
	}
}

// P7.4: as many skaters and judges as there can be.
func TestGreatestSwing(t *testing.T) {
	r := api.Rules{Bases: []int{api.MaxBase}, Factor: api.MaxFactor, Most: api.MaxCalled}
	var l []api.Skating
	for i := range api.MaxSkatings {
		s := api.Skating{Calls: calls(api.MaxCalled, api.MaxPanel), Over: 5 * i}
		for range api.MaxParts {
			s.Parts = append(s.Parts, make([]int, api.MaxPanel))
		}
		l = append(l, s)
	}
	for i, s := range mustSwing(t, r, l, api.MaxPanel-1) {
		if s != (api.Span{Lo: i + 1, Hi: i + 1}) {
			t.Error(i, s)
		}
	}
	for i := range l {
		for _, c := range l[i].Calls {
			c.Marks[0] = 5
		}
	}
	for i, s := range mustSwing(t, r, l, api.MaxPanel-1) {
		// The last judge can give 16 times 143 more, and so as much as 22 times five seconds take.
		if s != (api.Span{Lo: max(1, i+1-22), Hi: min(api.MaxSkatings, i+1+22)}) {
			t.Error(i, s)
		}
	}
}

// P7.4: ErrLong, ErrArg and ErrRange, in this order.
func TestSwingErrors(t *testing.T) {
	r, s := example()
	for name, c := range map[string]struct {
		l     []api.Skating
		judge int
		e     api.Errno
	}{
		"judge -1":                       {[]api.Skating{s}, -1, api.ErrRange},
		"judge 5 of 5":                   {[]api.Skating{s}, 5, api.ErrRange},
		"the least judge":                {[]api.Skating{s}, math.MinInt, api.ErrRange},
		"the greatest judge":             {[]api.Skating{s}, math.MaxInt, api.ErrRange},
		"no skaters":                     {nil, 0, api.ErrRange},
		"nobody has marks":               {[]api.Skating{{}, {Over: 3}}, 0, api.ErrRange},
		"one without marks first":        {[]api.Skating{{}, s}, 4, api.OK},
		"40 skaters, the last has marks": {append(make([]api.Skating, api.MaxSkatings-1), s), 4, api.OK},
	} {
		l, e := score.Swing(r, c.l, c.judge)
		if e != c.e || e == api.OK && len(l) != len(c.l) || e != api.OK && len(l) != 0 {
			t.Errorf("%s: %v, error %d", name, l, e)
		}
	}
	for name, c := range badContests() {
		for _, judge := range []int{0, -1, 99} {
			if l, e := score.Swing(c.r, c.l, judge); len(l) != 0 || e != c.e {
				t.Errorf("%s, judge %d: %v, error %d", name, judge, l, e)
			}
		}
	}
}

// swingBy returns the best and the worst place of each skater, by the trial of all marks of a judge.
func swingBy(t *testing.T, r api.Rules, l []api.Skating, judge int) []api.Span {
	t.Helper()
	l = cloneAll(l)
	grades, quarters := marksOf(l, judge)
	spans := make([]api.Span, len(l))
	var try func(i int)
	try = func(i int) {
		switch {
		case i < len(grades):
			for m := -api.MaxGrade; m <= api.MaxGrade; m++ {
				*grades[i] = m
				try(i + 1)
			}
		case i < len(grades)+len(quarters):
			for m := range api.MaxQuarters + 1 {
				*quarters[i-len(grades)] = m
				try(i + 1)
			}
		default:
			for k, place := range placesOf(t, r, l) {
				if spans[k].Lo == 0 || place < spans[k].Lo {
					spans[k].Lo = place
				}
				spans[k].Hi = max(spans[k].Hi, place)
			}
		}
	}
	try(0)
	return spans
}

// trials returns how many ways there are to give the marks of one judge.
func trials(l []api.Skating) int {
	n := 1
	for _, s := range l {
		for range s.Calls {
			n *= 2*api.MaxGrade + 1
		}
		for range s.Parts {
			n *= api.MaxQuarters + 1
		}
	}
	return n
}

// few returns rules, and a contest of skaters most of whom are close to each other, of which all marks of a judge can be tried, and a judge of it.
func few(rnd *rand.Rand) (api.Rules, []api.Skating, int) {
	for {
		r, judges := anyRules(rnd), 1+rnd.Intn(api.MaxPanel)
		l := anyContest(rnd, r, judges, 4, 2, 1)
		for i := range l {
			if rnd.Intn(3) > 0 {
				l[i] = nearly(rnd, l[0], judges)
			}
		}
		if len(l) > 1 && hasMarks(l) && trials(l) < 2000 {
			return r, l, rnd.Intn(judges)
		}
	}
}

// nearly returns a skating like another one, in which some marks are one higher.
func nearly(rnd *rand.Rand, s api.Skating, judges int) api.Skating {
	s = clone(s)
	for judge := range judges {
		grades, quarters := marksOf([]api.Skating{s}, judge)
		for _, m := range grades {
			*m = min(*m+rnd.Intn(2), api.MaxGrade)
		}
		for _, m := range quarters {
			*m = min(*m+rnd.Intn(2), api.MaxQuarters)
		}
	}
	return s
}

// P7.4, P7.7: the swing is the one that the trial of all marks of the judge finds.
func TestSwingModel(t *testing.T) {
	rnd := rand.New(rand.NewSource(74))
	moved, stays := 0, 0
	for range 600 {
		r, l, judge := few(rnd)
		spans, want := mustSwing(t, r, l, judge), swingBy(t, r, l, judge)
		if !slices.Equal(spans, want) {
			t.Fatalf("Swing(%v, %v, %d) = %v, not %v", r, l, judge, spans, want)
		}
		for _, s := range spans {
			if s.Lo < s.Hi {
				moved++
			} else {
				stays++
			}
		}
	}
	if moved < 200 || stays < 200 {
		t.Error("too few who are moved, or who are not", moved, stays)
	}
}
