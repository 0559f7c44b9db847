package roster_test

import (
	"math"
	"math/rand"
	"slices"
	"testing"

	"icehall/api"
	"icehall/roster"
)

// P11.2: the document's examples.
func TestWhyExamples(t *testing.T) {
	if why := mustSay(t, example(), 7, 6); !slices.Equal(why, []int{api.Banned}) {
		t.Error(why)
	}
	if why := mustSay(t, example(), 5, 6); len(why) > 0 {
		t.Error(why)
	}
}

// P11.2: each reason, and several of them.
func TestWhy(t *testing.T) {
	two := []api.RosterEvent{join(3, 8, 1), join(3, 4, 1)}
	way := append([]api.RosterEvent{hurt(4, 8)}, passes(5, 8, 5)...)
	for name, c := range map[string]struct {
		more []api.RosterEvent
		day  int
		want []int
	}{
		"none":                          {nil, 3, nil},
		"suspended":                     {[]api.RosterEvent{suspend(4, 8, 1)}, 4, []int{1}},
		"suspended for long":            {[]api.RosterEvent{suspend(4, 8, 2), match(4, 1)}, 900, []int{1}},
		"served":                        {[]api.RosterEvent{suspend(4, 8, 1), match(4, 1)}, 4, nil},
		"hurt":                          {[]api.RosterEvent{hurt(4, 8)}, 4, []int{2}},
		"hurt long ago":                 {[]api.RosterEvent{hurt(4, 8)}, api.MaxDay, []int{2}},
		"at the last stage":             {way, 9, []int{2}},
		"cleared":                       {append(slices.Clone(way), clearing(10, 8)), 10, nil},
		"on a sheet":                    {[]api.RosterEvent{match(4, 1, 8)}, 4, []int{3}},
		"on a sheet with another":       {[]api.RosterEvent{match(4, 1, 4, 8)}, 4, []int{3}},
		"another is on a sheet":         {[]api.RosterEvent{match(4, 1, 4)}, 4, nil},
		"on a sheet of the day before":  {[]api.RosterEvent{match(4, 1, 8)}, 5, nil},
		"on a sheet, and days behind":   {[]api.RosterEvent{match(4, 1, 8), match(5, 1, 4)}, 5, nil},
		"on sheets":                     {[]api.RosterEvent{match(4, 1, 8), match(5, 1, 8)}, 5, []int{3}},
		"suspended and hurt":            {[]api.RosterEvent{hurt(4, 8), suspend(4, 8, 1)}, 4, []int{1, 2}},
		"suspended behind the match":    {[]api.RosterEvent{match(4, 1, 8), suspend(4, 8, 1)}, 4, []int{1, 3}},
		"hurt in the match":             {[]api.RosterEvent{match(4, 1, 8), hurt(4, 8)}, 4, []int{2, 3}},
		"all three":                     {[]api.RosterEvent{match(4, 1, 8), hurt(4, 8), suspend(4, 8, 1)}, 4, []int{1, 2, 3}},
		"all three, and a day later":    {[]api.RosterEvent{match(4, 1, 8), hurt(4, 8), suspend(4, 8, 1)}, 5, []int{1, 2}},
		"cleared on the day of a match": {append(slices.Clone(way), clearing(10, 8), match(10, 1, 8)), 10, []int{3}},
	} {
		if why := mustSay(t, append(slices.Clone(two), c.more...), 8, c.day); !slices.Equal(why, c.want) {
			t.Errorf("%s: %v, not %v", name, why, c.want)
		}
	}
}

// P11.2: the errors, in their order.
func TestWhyErrors(t *testing.T) {
	for _, c := range []struct {
		l           []api.RosterEvent
		person, day int
		e           api.Errno
	}{
		{append(example(), pass(5, 9)), 7, 6, api.ErrRefuse},
		{append(example(), pass(5, 9)), 6, -1, api.ErrRefuse},
		{append(example(), hurt(4, 9)), 6, -1, api.ErrOrder},
		{make([]api.RosterEvent, 257), 0, 0, api.ErrLong},
		{make([]api.RosterEvent, 2), 0, 0, api.ErrTwice},
		{[]api.RosterEvent{{Kind: -1}}, 0, 0, api.ErrArg},
		{nil, 0, 0, api.ErrNone},
		{nil, 0, -1, api.ErrNone},
		{example(), 6, 6, api.ErrNone},
		{example(), 6, 4, api.ErrNone},
		{example(), -1, 6, api.ErrNone},
		{example(), 0, 6, api.ErrNone},
		{example(), math.MinInt, 6, api.ErrNone},
		{example(), api.MaxPerson + 1, 6, api.ErrNone},
		{example(), math.MaxInt, math.MaxInt, api.ErrNone},
		{example(), 7, 4, api.ErrRange},
		{example(), 7, 0, api.ErrRange},
		{example(), 7, -1, api.ErrRange},
		{example(), 7, math.MinInt, api.ErrRange},
		{example(), 7, api.MaxDay + 1, api.ErrRange},
		{example(), 7, math.MaxInt, api.ErrRange},
		{example(), 7, 5, api.OK},
		{example(), 7, api.MaxDay, api.OK},
		{example()[:3], 7, 0, api.ErrRange},
		{[]api.RosterEvent{join(0, 0, 0)}, 0, 0, api.OK},
		{[]api.RosterEvent{join(api.MaxDay, 0, 0)}, 0, api.MaxDay - 1, api.ErrRange},
		{[]api.RosterEvent{join(api.MaxDay, 0, 0)}, 0, api.MaxDay, api.OK},
		// The last event counts, whomever it is about.
		{append(example(), match(8, 77)), 7, 7, api.ErrRange},
		{append(example(), match(8, 77)), 7, 8, api.OK},
	} {
		if why, e := roster.Why(c.l, c.person, c.day); e != c.e || e != api.OK && len(why) > 0 {
			t.Errorf("Why of %d on %d: %v, error %d, not %d", c.person, c.day, why, e, c.e)
		}
	}
}

// P11.2: the reasons are those of the words of the chapter.
func TestWhyByWords(t *testing.T) {
	rnd := rand.New(rand.NewSource(113))
	seen := map[int]int{}
	for range 1500 {
		l := anySeason(rnd, 1+rnd.Intn(60))
		if len(l) == 0 {
			continue
		}
		last := l[len(l)-1].Day
		for person := range 12 {
			if _, ok := history(l).member(person); !ok {
				if _, e := roster.Why(l, person, last); e != api.ErrNone {
					t.Fatalf("%v: %d has the error %d", l, person, e)
				}
				seen[-1]++
				continue
			}
			for day := last; day < last+3; day++ {
				why, want := mustSay(t, l, person, day), history(l).why(person, day)
				if !slices.Equal(why, want) {
					t.Fatalf("%v: %d on %d: %v, not %v", l, person, day, why, want)
				}
				bits := 0
				for _, n := range why {
					bits |= 1 << n
				}
				seen[bits]++
			}
		}
	}
	for _, bits := range []int{-1, 0, 2, 4, 8, 6, 10, 12} {
		if seen[bits] < 20 {
			t.Errorf("%d was seen only %d times", bits, seen[bits])
		}
	}
}
