package hours

import (
	"cmp"
	"slices"

	"icehall/api"
)

// fairest returns the first one of the good plans than which no good one is fairer.
func fairest(x api.Timetable) []int {
	// Plans that come to the same place can go on alike, so what is best behind it is found once only.
	known := map[place][]int{}
	var best func(p place) []int
	best = func(p place) []int {
		if p.hour == len(x.Hours) {
			return rising(owned(x, p))
		}
		if l, ok := known[p]; ok {
			return l
		}
		var most []int
		for _, q := range longer(x, p) {
			if l := best(q); slices.Compare(l, most) > 0 {
				most = l
			}
		}
		known[p] = most
		return most
	}
	plan, p := []int{}, start()
	aim := best(p)
hours:
	for range x.Hours {
		for group, q := range longer(x, p) {
			if slices.Equal(best(q), aim) {
				plan, p = append(plan, group), q
				continue hours
			}
		}
	}
	return plan
}

// hinders returns the first one of the smallest sets of groups that cannot have what they need, or none.
func hinders(x api.Timetable, least []int) []int {
	var named []int
	for set := range 1 << len(x.Groups) {
		l := members(set)
		if (named == nil || ahead(l, named)) && !satisfied(x, least, l) {
			named = l
		}
	}
	return named
}

// members returns the groups of a set of bits, rising.
func members(set int) []int {
	var l []int
	for group := range api.MaxGroups {
		if set>>group&1 == 1 {
			l = append(l, group)
		}
	}
	return l
}

// ahead returns whether a set of groups is named rather than another one.
func ahead(a, b []int) bool {
	return cmp.Or(cmp.Compare(len(a), len(b)), slices.Compare(a, b)) < 0
}

// satisfied returns whether a good plan gives each group of a set as many hours as it needs.
func satisfied(x api.Timetable, least, set []int) bool {
	// What a plan gives beyond the needs can as well be left free, so nobody is given more than that.
	groups, missing := make([]api.Group, len(x.Groups)), 0
	for _, group := range set {
		if least[group] > x.Groups[group].Most {
			return false
		}
		groups[group] = x.Groups[group]
		groups[group].Most = least[group]
		missing += least[group]
	}
	x.Groups = groups
	failed := map[place]bool{}
	var can func(p place, missing int) bool
	can = func(p place, missing int) bool {
		if missing == 0 {
			return true
		}
		if missing > len(x.Hours)-p.hour || failed[p] {
			return false
		}
		for group, q := range longer(x, p) {
			left := missing - 1
			if group == api.Free {
				left = missing
			}
			if can(q, left) {
				return true
			}
		}
		failed[p] = true
		return false
	}
	return can(start(), missing)
}

// rising returns the elements of a list from the least to the greatest, in memory of their own.
func rising[T cmp.Ordered](l []T) []T {
	l = slices.Clone(l)
	slices.Sort(l)
	return l
}
