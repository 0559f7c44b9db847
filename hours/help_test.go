package hours_test

import (
	"math"
	"math/rand"
	"slices"
	"testing"

	"icehall/api"
	"icehall/hours"
)

// odd is numbers that no range of the chapter contains, or that are at the end of one.
var odd = []int{math.MinInt, -2, -1, 0, 1, 2, 5, 6, 7, 12, 13, 120, 121, 127, 128, 1000, 1001, 1440, 1441, math.MaxInt}

// example returns the timetable of the document's examples.
func example() api.Timetable {
	return api.Timetable{
		Hours: []api.IceHour{hour(1, 960, 1020), hour(1, 1020, 1080), hour(1, 1200, 1260), hour(3, 960, 1020)},
		Groups: []api.Group{
			{Days: 2, Early: 0, Late: 1440, Most: 3, Credit: 0},
			{Days: 10, Early: 900, Late: 1100, Most: 2, Credit: 1},
			{Days: 8, Early: 0, Late: 1440, Most: 4, Credit: 0},
		},
		Resurface: 10,
	}
}

func hour(day, begin, end int) api.IceHour { return api.IceHour{Day: day, Begin: begin, End: end} }

// always returns a group that may have each hour, with so many hours before.
func always(credit int) api.Group {
	return api.Group{Days: 127, Late: api.MaxMinute, Most: api.MaxIceHours, Credit: credit}
}

// days returns the first hour of each of the first n days.
func days(n int) []api.IceHour {
	var l []api.IceHour
	for day := range n {
		l = append(l, hour(day, 0, 60))
	}
	return l
}

// evening returns n hours of one day, one right behind the other.
func evening(n int) []api.IceHour {
	var l []api.IceHour
	for i := range n {
		l = append(l, hour(4, 60*i, 60*i+60))
	}
	return l
}

// badTimetables returns timetables that are not valid, by what is wrong with them.
func badTimetables() map[string]api.Timetable {
	bad := map[string]api.Timetable{}
	for name, change := range map[string]func(x *api.Timetable){
		"resurface below 0":            func(x *api.Timetable) { x.Resurface = -1 },
		"resurface above MaxResurface": func(x *api.Timetable) { x.Resurface = api.MaxResurface + 1 },
		"six groups":                   func(x *api.Timetable) { x.Groups = slices.Repeat([]api.Group{always(0)}, 6) },
		"13 hours":                     func(x *api.Timetable) { x.Hours = evening(13) },
		"days below 0":                 func(x *api.Timetable) { x.Groups[2].Days = -1 },
		"days above 127":               func(x *api.Timetable) { x.Groups[2].Days = 128 },
		"early below 0":                func(x *api.Timetable) { x.Groups[0].Early = -1 },
		"early above MaxMinute":        func(x *api.Timetable) { x.Groups[0].Early = api.MaxMinute + 1 },
		"late below 0":                 func(x *api.Timetable) { x.Groups[0].Late = -1 },
		"late above MaxMinute":         func(x *api.Timetable) { x.Groups[0].Late = api.MaxMinute + 1 },
		"most below 0":                 func(x *api.Timetable) { x.Groups[1].Most = -1 },
		"most above MaxIceHours":       func(x *api.Timetable) { x.Groups[1].Most = api.MaxIceHours + 1 },
		"credit below 0":               func(x *api.Timetable) { x.Groups[1].Credit = -1 },
		"credit above MaxCredit":       func(x *api.Timetable) { x.Groups[1].Credit = api.MaxCredit + 1 },
		"day below 0":                  func(x *api.Timetable) { x.Hours[0].Day = -1 },
		"day above 6":                  func(x *api.Timetable) { x.Hours[3].Day = 7 },
		"begin below 0":                func(x *api.Timetable) { x.Hours[0].Begin = -1 },
		"end above MaxMinute":          func(x *api.Timetable) { x.Hours[3].End = api.MaxMinute + 1 },
		"an hour of no minute":         func(x *api.Timetable) { x.Hours[2].End = x.Hours[2].Begin },
		"an end ahead of the begin":    func(x *api.Timetable) { x.Hours[2].End = x.Hours[2].Begin - 1 },
		"an earlier day behind":        func(x *api.Timetable) { x.Hours[3].Day = 0 },
		"a begin ahead of the end":     func(x *api.Timetable) { x.Hours[1].Begin = x.Hours[0].End - 1 },
		"the same hour again":          func(x *api.Timetable) { x.Hours[1] = x.Hours[0] },
		"an earlier hour of the day":   func(x *api.Timetable) { x.Hours[2].Begin, x.Hours[2].End = 0, 60 },
		"only numbers that are too small": func(x *api.Timetable) {
			m := math.MinInt
			*x = api.Timetable{Hours: []api.IceHour{hour(m, m, m)}, Groups: []api.Group{{Days: m, Early: m, Late: m, Most: m, Credit: m}}, Resurface: m}
		},
	} {
		x := example()
		change(&x)
		bad[name] = x
	}
	return bad
}

// clone returns the same timetable in memory of its own.
func clone(x api.Timetable) api.Timetable {
	x.Hours, x.Groups = slices.Clone(x.Hours), slices.Clone(x.Groups)
	return x
}

// same returns whether timetables are the same.
func same(a, b api.Timetable) bool {
	return slices.Equal(a.Hours, b.Hours) && slices.Equal(a.Groups, b.Groups) && a.Resurface == b.Resurface
}

// anyTimetable returns a valid timetable with so many hours and groups at most; its hours lie close together, and its groups can have most of them.
func anyTimetable(rnd *rand.Rand, hourCount, groupCount int) api.Timetable {
	x := api.Timetable{Resurface: rnd.Intn(4)}
	day, minute := rnd.Intn(2), 0
	for range max(rnd.Intn(hourCount+1), rnd.Intn(hourCount+1)) {
		if rnd.Intn(4) == 0 && day < 6 {
			day, minute = day+1, 0
		}
		begin := minute + rnd.Intn(4)
		minute = begin + 1 + rnd.Intn(2)
		x.Hours = append(x.Hours, hour(day, begin, minute))
	}
	for range max(rnd.Intn(groupCount+1), rnd.Intn(groupCount+1)) {
		g := always(rnd.Intn(3))
		if rnd.Intn(3) == 0 {
			g.Days = rnd.Intn(128)
		}
		if rnd.Intn(3) == 0 {
			g.Early, g.Late = rnd.Intn(8), 4+rnd.Intn(20)
		}
		if rnd.Intn(2) == 0 {
			g.Most = rnd.Intn(hourCount)
		}
		x.Groups = append(x.Groups, g)
	}
	return x
}

// anyLeast returns what each group may need.
func anyLeast(rnd *rand.Rand, x api.Timetable, most int) []int {
	var l []int
	for range x.Groups {
		l = append(l, rnd.Intn(most+1))
	}
	return l
}

// anyPlan returns a plan with numbers of groups that there are, good or not.
func anyPlan(rnd *rand.Rand, x api.Timetable) []int {
	var l []int
	for range x.Hours {
		l = append(l, rnd.Intn(len(x.Groups)+1)-1)
	}
	return l
}

// goodPlan returns a good plan: it offers each hour to groups at random.
func goodPlan(rnd *rand.Rand, x api.Timetable) []int {
	plan := slices.Repeat([]int{api.Free}, len(x.Hours))
	for i := range plan {
		plan[i] = rnd.Intn(len(x.Groups)+1) - 1
		if wrong(x, plan, i) != api.OK {
			plan[i] = api.Free
		}
	}
	return plan
}

// wrong returns the error that an hour of a plan has, as the chapter words it.
func wrong(x api.Timetable, plan []int, i int) api.Errno {
	if plan[i] == api.Free {
		return api.OK
	}
	g, h := x.Groups[plan[i]], x.Hours[i]
	comes := map[int]bool{}
	for day, bit := 0, 1; day < 7; day, bit = day+1, bit*2 {
		comes[day] = g.Days/bit%2 == 1
	}
	if !comes[h.Day] || h.Begin < g.Early || h.End > g.Late {
		return api.ErrRefuse
	}
	count := 0
	for _, group := range plan[:i+1] {
		if group == plan[i] {
			count++
		}
	}
	if count > g.Most {
		return api.ErrLimit
	}
	if i > 0 && plan[i-1] != api.Free && plan[i-1] != plan[i] && x.Hours[i-1].Day == h.Day && h.Begin-x.Hours[i-1].End < x.Resurface {
		return api.ErrState
	}
	return api.OK
}

// hasBy returns what each group has by a plan.
func hasBy(x api.Timetable, plan []int) []int {
	var l []int
	for i, g := range x.Groups {
		has := g.Credit
		for _, group := range plan {
			if group == i {
				has++
			}
		}
		l = append(l, has)
	}
	return l
}

// sorted returns the numbers from the least to the greatest.
func sorted(l []int) []int {
	l = slices.Clone(l)
	slices.Sort(l)
	return l
}

// goodPlans returns all good plans, in their order.
func goodPlans(x api.Timetable) [][]int {
	plans := [][]int{{}}
	for i := range x.Hours {
		var next [][]int
		for _, p := range plans {
			for group := range len(x.Groups) + 1 {
				if group == len(x.Groups) {
					group = api.Free
				}
				if q := append(slices.Clone(p), group); wrong(x, q, i) == api.OK {
					next = append(next, q)
				}
			}
		}
		plans = next
	}
	return plans
}

// tryFairest returns the fairest plan by the trial of all good ones.
func tryFairest(x api.Timetable) []int {
	var best []int
	for i, p := range goodPlans(x) {
		if i == 0 || slices.Compare(sorted(hasBy(x, p)), sorted(hasBy(x, best))) > 0 {
			best = p
		}
	}
	return best
}

// ending is what counts of a plan for the hours behind it: the group of its last hour, and how many hours each group has.
type ending struct {
	last  int
	given [api.MaxGroups]int
}

// endings returns the endings of all good plans that begin with these hours, which are good themselves.
func endings(x api.Timetable, first []int) map[ending]bool {
	e := ending{last: api.Free}
	for _, group := range first {
		e.last = group
		if group != api.Free {
			e.given[group]++
		}
	}
	all := map[ending]bool{e: true}
	for i := len(first); i < len(x.Hours); i++ {
		next := map[ending]bool{}
		for e := range all {
			next[ending{last: api.Free, given: e.given}] = true
			for group, g := range x.Groups {
				two := slices.Repeat([]int{api.Free}, len(x.Hours))
				two[i] = group
				if i > 0 {
					two[i-1] = e.last
				}
				// The hours ahead are counted here, so wrong is asked with a Most that does not matter.
				y := x
				y.Groups = slices.Repeat([]api.Group{always(0)}, len(x.Groups))
				y.Groups[group] = g
				y.Groups[group].Most = api.MaxIceHours
				if e.given[group] < g.Most && wrong(y, two, i) == api.OK {
					q := ending{last: group, given: e.given}
					q.given[group]++
					next[q] = true
				}
			}
		}
		all = next
	}
	return all
}

// most returns the best that the groups can have, sorted, by the good plans that begin with these hours.
func most(x api.Timetable, first []int) []int {
	var best []int
	for e := range endings(x, first) {
		var l []int
		for i, g := range x.Groups {
			l = append(l, e.given[i]+g.Credit)
		}
		if l = sorted(l); best == nil || slices.Compare(l, best) > 0 {
			best = l
		}
	}
	return best
}

// tryHinders returns what hinders, by the trial of all sets and of what groups can be given by all good plans.
func tryHinders(x api.Timetable, least []int, given [][]int) []int {
	var named []int
	for size := 1; size <= len(x.Groups); size++ {
		for _, set := range sets(len(x.Groups), size) {
			can := slices.ContainsFunc(given, func(l []int) bool {
				return !slices.ContainsFunc(set, func(g int) bool { return l[g] < least[g] })
			})
			if !can && (named == nil || len(set) == len(named) && slices.Compare(set, named) < 0) {
				named = set
			}
		}
	}
	return named
}

// sets returns all rising lists of so many of n groups.
func sets(n, size int) [][]int {
	if size == 0 {
		return [][]int{{}}
	}
	var all [][]int
	for last := range n {
		for _, l := range sets(last, size-1) {
			all = append(all, append(l, last))
		}
	}
	return all
}

// mustFairest returns the fairest plan.
func mustFairest(t *testing.T, x api.Timetable) []int {
	t.Helper()
	p, e := hours.Fairest(x)
	if e != api.OK {
		t.Fatalf("Fairest(%v): error %d", x, e)
	}
	return p
}

// mustHave returns what the groups have by a good plan.
func mustHave(t *testing.T, x api.Timetable, plan []int) []int {
	t.Helper()
	has, n, e := hours.Check(x, plan)
	if e != api.OK || n != len(x.Hours) || len(has) != len(x.Groups) {
		t.Fatalf("Check(%v, %v): %v, %d, error %d", x, plan, has, n, e)
	}
	return has
}

// mustHinder returns the groups that hinder.
func mustHinder(t *testing.T, x api.Timetable, least []int) []int {
	t.Helper()
	l, e := hours.Hinders(x, least)
	if e != api.OK {
		t.Fatalf("Hinders(%v, %v): error %d", x, least, e)
	}
	return l
}
