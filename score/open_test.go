package score_test

import (
	"math"
	"math/rand"
	"slices"
	"testing"

	"icehall/api"
	"icehall/score"
)

// P7.5: the examples of the document, and other contests.
func TestOpen(t *testing.T) {
	for name, c := range map[string]struct {
		l     []api.Skating
		first int
		want  []int
	}{
		"five judges who agree":          {agreed(5, 0, 1, 3), 1, nil},
		"three judges, first of three":   {agreed(3, 0, 1, 3), 3, nil},
		"three judges, first two":        {agreed(3, 0, 1, 3), 2, []int{0, 1, 2}},
		"three judges, first one":        {agreed(3, 0, 1, 3), 1, []int{0, 1, 2}},
		"four judges, first one":         {agreed(4, 0, 2, 5), 1, []int{1, 2}},
		"four judges, first two":         {agreed(4, 0, 2, 5), 2, []int{0, 1}},
		"four judges, the other way":     {agreed(4, 5, 2, 0), 2, []int{1, 2}},
		"more places than skaters":       {agreed(1, 0, 1, 3), 4, nil},
		"as many places as there can be": {agreed(1, 0, 1, 3), api.MaxSkatings, nil},
		"one skater":                     {agreed(1, 0), 1, nil},
		"no skaters":                     {nil, 1, nil},
		"nobody has marks":               {[]api.Skating{{}, {Over: 9}, {}}, 1, nil},
		"who is passed, not who passes":  {[]api.Skating{single(0, 0, 0, 0, 5), single(0, 0, 0, 0, 0)}, 1, []int{1}},
	} {
		if l := mustOpen(t, hundred(), c.l, c.first); !slices.Equal(l, c.want) {
			t.Errorf("%s: %v", name, l)
		}
	}
}

// P7.5: the skaters are rising, as many as there can be.
func TestOpenMany(t *testing.T) {
	all := agreed(1, make([]int, api.MaxSkatings)...)
	for first := 1; first < api.MaxSkatings; first++ {
		l := mustOpen(t, hundred(), all, first)
		if len(l) != api.MaxSkatings || !slices.IsSorted(l) || l[0] != 0 || l[api.MaxSkatings-1] != api.MaxSkatings-1 {
			t.Fatal(first, l)
		}
	}
	if l := mustOpen(t, hundred(), all, api.MaxSkatings); len(l) != 0 {
		t.Error(l)
	}
}

// P7.5: ErrLong, ErrArg and ErrRange, in this order.
func TestOpenErrors(t *testing.T) {
	r, s := example()
	for name, c := range map[string]struct {
		l     []api.Skating
		first int
		e     api.Errno
	}{
		"first 0":                    {[]api.Skating{s}, 0, api.ErrRange},
		"first 0, no skaters":        {nil, 0, api.ErrRange},
		"first 41":                   {[]api.Skating{s}, api.MaxSkatings + 1, api.ErrRange},
		"first 41, nobody has marks": {[]api.Skating{{}}, api.MaxSkatings + 1, api.ErrRange},
		"first is the least number":  {[]api.Skating{s}, math.MinInt, api.ErrRange},
		"first is the greatest":      {[]api.Skating{s}, math.MaxInt, api.ErrRange},
		"first 1":                    {[]api.Skating{s}, 1, api.OK},
		"first 40 of 40":             {make([]api.Skating, api.MaxSkatings), api.MaxSkatings, api.OK},
	} {
		if l, e := score.Open(r, c.l, c.first); len(l) != 0 || e != c.e {
			t.Errorf("%s: %v, error %d", name, l, e)
		}
	}
	for name, c := range badContests() {
		for _, first := range []int{1, 0, 41} {
			if l, e := score.Open(c.r, c.l, first); len(l) != 0 || e != c.e {
				t.Errorf("%s, first %d: %v, error %d", name, first, l, e)
			}
		}
	}
}

// P7.5: open are those whom the trial of all marks of each single judge finds both among the first and behind them.
func TestOpenModel(t *testing.T) {
	rnd := rand.New(rand.NewSource(75))
	some, none := 0, 0
	for range 150 {
		r, l, _ := few(rnd)
		var judges [][]api.Span
		for judge := range judgesOf(l) {
			judges = append(judges, swingBy(t, r, l, judge))
		}
		for first := 1; first <= len(l)+1; first++ {
			var want []int
			for skater := range l {
				if slices.ContainsFunc(judges, func(spans []api.Span) bool { return spans[skater].Lo <= first && spans[skater].Hi > first }) {
					want = append(want, skater)
				}
			}
			if open := mustOpen(t, r, l, first); !slices.Equal(open, want) {
				t.Fatalf("Open(%v, %v, %d) = %v, not %v", r, l, first, open, want)
			}
			if len(want) > 0 {
				some++
			} else {
				none++
			}
		}
	}
	if some < 50 || none < 50 {
		t.Error("too few contests with open places, or without", some, none)
	}
}

// judgesOf returns how many judges a contest with marks has.
func judgesOf(l []api.Skating) int {
	for _, s := range l {
		if len(s.Calls) > 0 {
			return len(s.Calls[0].Marks)
		}
		if len(s.Parts) > 0 {
			return len(s.Parts[0])
		}
	}
	return 0
}
