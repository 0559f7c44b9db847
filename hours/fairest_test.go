package hours_test

import (
	"math/rand"
	"slices"
	"testing"

	"icehall/api"
)

// P6.2: Fairest returns the first one of the fairest plans.
func TestFairest(t *testing.T) {
	early := always(0)
	early.Late = 120
	once := always(0)
	once.Most = 1
	never := always(0)
	never.Days = 0
	for name, c := range map[string]struct {
		x    api.Timetable
		want []int
	}{
		"the example":                         {example(), []int{0, 0, 0, 2}},
		"two groups, three hours":             {api.Timetable{Hours: days(3), Groups: []api.Group{always(0), always(0)}}, []int{0, 0, 1}},
		"as many groups as hours":             {api.Timetable{Hours: days(3), Groups: slices.Repeat([]api.Group{always(0)}, 3)}, []int{0, 1, 2}},
		"more groups than hours":              {api.Timetable{Hours: days(2), Groups: slices.Repeat([]api.Group{always(0)}, 4)}, []int{0, 1}},
		"who has had more has fewer":          {api.Timetable{Hours: days(3), Groups: []api.Group{always(2), always(0)}}, []int{0, 1, 1}},
		"who has had far more has none":       {api.Timetable{Hours: days(3), Groups: []api.Group{always(9), always(0)}}, []int{1, 1, 1}},
		"more is given to who can have it":    {api.Timetable{Hours: days(4), Groups: []api.Group{once, always(0)}}, []int{0, 1, 1, 1}},
		"free if nobody can":                  {api.Timetable{Hours: days(4), Groups: []api.Group{once, never}}, []int{0, -1, -1, -1}},
		"who can come early only is first":    {api.Timetable{Hours: evening(4), Groups: []api.Group{always(0), early}}, []int{1, 1, 0, 0}},
		"free between, to resurface":          {api.Timetable{Hours: evening(4), Groups: []api.Group{always(0), always(0)}, Resurface: 1}, []int{0, 0, -1, 1}},
		"free between, three groups":          {api.Timetable{Hours: evening(5), Groups: slices.Repeat([]api.Group{always(0)}, 3), Resurface: 1}, []int{0, -1, 1, -1, 2}},
		"two groups of three, too few hours":  {api.Timetable{Hours: evening(4), Groups: slices.Repeat([]api.Group{always(0)}, 3), Resurface: 1}, []int{0, 0, -1, 1}},
		"the least counts, not the sum":       {api.Timetable{Hours: evening(3), Groups: []api.Group{always(0), always(0)}, Resurface: 1}, []int{0, -1, 1}},
		"the sum counts if the least is same": {api.Timetable{Hours: evening(3), Groups: []api.Group{never, always(0)}, Resurface: 1}, []int{1, 1, 1}},
		"an hour for nobody":                  {api.Timetable{Hours: days(1), Groups: []api.Group{never}}, []int{-1}},
		"no groups":                           {api.Timetable{Hours: days(3)}, []int{-1, -1, -1}},
		"no hours":                            {api.Timetable{Groups: []api.Group{always(1)}}, nil},
		"nothing":                             {api.Timetable{}, nil},
	} {
		if p := mustFairest(t, c.x); !slices.Equal(p, c.want) {
			t.Errorf("%s: %v", name, p)
		}
	}
}

// P6.2, P6.6: of all good plans it is the first one of the fairest ones, as the trial of all of them finds.
func TestFairestModel(t *testing.T) {
	rnd := rand.New(rand.NewSource(62))
	free, groups := 0, 0
	for range 3000 {
		x := anyTimetable(rnd, 6, 3)
		p, want := mustFairest(t, x), tryFairest(x)
		if !slices.Equal(p, want) {
			t.Fatalf("Fairest(%v) = %v, not %v", x, p, want)
		}
		if slices.Contains(p, api.Free) && slices.Max(p) > api.Free {
			free++
		}
		if slices.Contains(p, 1) && slices.Contains(p, 2) {
			groups++
		}
	}
	if free < 300 || groups < 300 {
		t.Error("too few plans with free hours, or with several groups", free, groups)
	}
}

// P6.2: with as many hours and groups as there can be, what the groups have is the most that any good plan gives, and no plan ahead of it gives as much.
func TestFairestMany(t *testing.T) {
	rnd := rand.New(rand.NewSource(63))
	for range 25 {
		x := anyTimetable(rnd, api.MaxIceHours, api.MaxGroups)
		x.Groups = append(x.Groups, slices.Repeat([]api.Group{always(rnd.Intn(3))}, api.MaxGroups-len(x.Groups))...)
		p := mustFairest(t, x)
		aim := most(x, nil)
		if l := sorted(mustHave(t, x, p)); !slices.Equal(l, aim) {
			t.Fatalf("Fairest(%v) = %v, so the groups have %v; they can have %v", x, p, l, aim)
		}
		for i, group := range p {
			if group == api.Free {
				group = len(x.Groups)
			}
			for g := range group {
				q := append(slices.Clone(p[:i]), g)
				if wrong(x, q, i) == api.OK && slices.Equal(most(x, q), aim) {
					t.Fatalf("Fairest(%v) = %v; a plan that begins with %v is ahead of it", x, p, q)
				}
			}
		}
	}
}

// P6.2: the greatest timetables, with time to resurface everywhere and nowhere.
func TestFairestGreatest(t *testing.T) {
	groups := slices.Repeat([]api.Group{always(api.MaxCredit)}, api.MaxGroups)
	for _, c := range []struct {
		resurface int
		want      []int
	}{
		{0, []int{0, 0, 0, 1, 1, 1, 2, 2, 3, 3, 4, 4}},
		{api.MaxResurface, []int{0, 0, -1, 1, 1, -1, 2, 2, -1, 3, -1, 4}},
	} {
		x := api.Timetable{Hours: evening(api.MaxIceHours), Groups: groups, Resurface: c.resurface}
		if p := mustFairest(t, x); !slices.Equal(p, c.want) {
			t.Error(c.resurface, p)
		}
	}
}
