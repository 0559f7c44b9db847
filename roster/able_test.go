package roster_test

import (
	"math"
	"math/rand"
	"slices"
	"testing"

	"icehall/api"
	"icehall/roster"
)

// P11.3: the document's examples.
func TestAbleExamples(t *testing.T) {
	if able := mustName(t, example(), 2, 6); len(able) > 0 {
		t.Error(able)
	}
	if able := mustName(t, example(), 3, 6); !slices.Equal(able, []int{5}) {
		t.Error(able)
	}
}

// P11.3: who is able, whatever the order is in which they joined.
func TestAble(t *testing.T) {
	four := []api.RosterEvent{join(3, 8, 1), join(3, 4095, 1), join(3, 6, 2), join(3, 4, 1), join(3, 0, 1)}
	way := append([]api.RosterEvent{hurt(4, 8)}, passes(5, 8, 5)...)
	for name, c := range map[string]struct {
		more      []api.RosterEvent
		club, day int
		want      []int
	}{
		"all":                      {nil, 1, 3, []int{0, 4, 8, 4095}},
		"later":                    {nil, 1, api.MaxDay, []int{0, 4, 8, 4095}},
		"of another club":          {nil, 2, 3, []int{6}},
		"of a club without any":    {nil, 0, 3, nil},
		"of the last club":         {nil, api.MaxClub, 3, nil},
		"not the suspended one":    {[]api.RosterEvent{suspend(4, 4, 2), match(4, 1)}, 1, 5, []int{0, 8, 4095}},
		"all, for a ban is served": {[]api.RosterEvent{suspend(4, 4, 1), match(4, 1)}, 1, 4, []int{0, 4, 8, 4095}},
		"not the hurt one":         {[]api.RosterEvent{hurt(4, 8)}, 1, 5, []int{0, 4, 4095}},
		"not at the last stage":    {way, 1, 20, []int{0, 4, 4095}},
		"all, for one is cleared":  {append(slices.Clone(way), clearing(10, 8)), 1, 10, []int{0, 4, 8, 4095}},
		"not who played":           {[]api.RosterEvent{match(4, 1, 0, 8)}, 1, 4, []int{4, 4095}},
		"all, a day later":         {[]api.RosterEvent{match(4, 1, 0, 8)}, 1, 5, []int{0, 4, 8, 4095}},
		"none, for all played":     {[]api.RosterEvent{match(4, 1, 0, 4, 8, 4095)}, 1, 4, nil},
		"each for a reason":        {[]api.RosterEvent{match(4, 1, 0), suspend(4, 4, 1), hurt(4, 8)}, 1, 4, []int{4095}},
	} {
		if able := mustName(t, append(slices.Clone(four), c.more...), c.club, c.day); !slices.Equal(able, c.want) {
			t.Errorf("%s: %v, not %v", name, able, c.want)
		}
	}
}

// P11.3: the errors, in their order.
func TestAbleErrors(t *testing.T) {
	for _, c := range []struct {
		l         []api.RosterEvent
		club, day int
		e         api.Errno
	}{
		{append(example(), pass(5, 9)), 2, 6, api.ErrRefuse},
		{append(example(), pass(5, 9)), -1, -1, api.ErrRefuse},
		{append(example(), hurt(5, 6)), 256, 4, api.ErrNone},
		{make([]api.RosterEvent, 257), 0, 0, api.ErrLong},
		{[]api.RosterEvent{{Day: -1}}, 0, 0, api.ErrArg},
		{example(), -1, 6, api.ErrRange},
		{example(), math.MinInt, 6, api.ErrRange},
		{example(), api.MaxClub + 1, 6, api.ErrRange},
		{example(), math.MaxInt, 6, api.ErrRange},
		{example(), 2, 4, api.ErrRange},
		{example(), 2, -1, api.ErrRange},
		{example(), 2, math.MinInt, api.ErrRange},
		{example(), 2, api.MaxDay + 1, api.ErrRange},
		{example(), 2, math.MaxInt, api.ErrRange},
		{example(), 0, 5, api.OK},
		{example(), api.MaxClub, api.MaxDay, api.OK},
		{append(example(), match(8, 77)), 2, 7, api.ErrRange},
		{append(example(), match(8, 77)), 2, 8, api.OK},
		{nil, 0, 0, api.OK},
		{nil, api.MaxClub, api.MaxDay, api.OK},
		{nil, 0, -1, api.ErrRange},
		{nil, 0, api.MaxDay + 1, api.ErrRange},
		{nil, -1, 0, api.ErrRange},
		{nil, api.MaxClub + 1, 0, api.ErrRange},
	} {
		if able, e := roster.Able(c.l, c.club, c.day); e != c.e || e != api.OK && len(able) > 0 {
			t.Errorf("Able of %d on %d: %v, error %d, not %d", c.club, c.day, able, e, c.e)
		}
	}
}

// P11.3: who is able is so by the words of the chapter.
func TestAbleByWords(t *testing.T) {
	rnd := rand.New(rand.NewSource(114))
	seen := map[string]int{}
	for range 1500 {
		l := anySeason(rnd, 1+rnd.Intn(60))
		last := 0
		if len(l) > 0 {
			last = l[len(l)-1].Day
		}
		members := history(l).members()
		for club := range 4 {
			all := 0
			for _, m := range members {
				if m.Club == club {
					all++
				}
			}
			for day := last; day < last+2; day++ {
				able, want := mustName(t, l, club, day), history(l).able(club, day)
				if !slices.Equal(able, want) {
					t.Fatalf("%v: the club %d on %d: %v, not %v", l, club, day, able, want)
				}
				switch {
				case len(able) > 1 && len(able) < all:
					seen["some"]++
				case len(able) == all:
					seen["all"]++
				case len(able) == 0:
					seen["none"]++
				}
			}
		}
	}
	for _, name := range []string{"some", "all", "none"} {
		if seen[name] < 100 {
			t.Errorf("%s: only %d times", name, seen[name])
		}
	}
}
