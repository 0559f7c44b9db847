package hours

import (
	"iter"

	"icehall/api"
)

// place is all that counts of the first hours of a plan: which hour is next, which group was given the hour ahead if there is no time to resurface behind it (Free otherwise), and how many hours each group was given.
type place struct {
	hour, last int
	given      [api.MaxGroups]int
}

// start returns the place in which no hour is given yet.
func start() place { return place{last: api.Free} }

// give returns the place behind the next hour if it is given to a group, or to none.
func give(x api.Timetable, p place, group int) (place, api.Errno) {
	hour := p.hour
	p.hour++
	if group == api.Free {
		p.last = api.Free
		return p, api.OK
	}
	switch {
	case !mayHave(x.Groups[group], x.Hours[hour]):
		return place{}, api.ErrRefuse
	case p.given[group] >= x.Groups[group].Most:
		return place{}, api.ErrLimit
	case p.last != api.Free && p.last != group:
		return place{}, api.ErrState
	}
	p.given[group]++
	p.last = api.Free
	if tight(x, hour) {
		p.last = group
	}
	return p, api.OK
}

// mayHave returns whether a group may have an hour.
func mayHave(g api.Group, h api.IceHour) bool {
	return g.Days>>h.Day&1 == 1 && h.Begin >= g.Early && h.End <= g.Late
}

// tight returns whether there is no time to resurface between an hour and the next one.
func tight(x api.Timetable, hour int) bool {
	if hour+1 == len(x.Hours) {
		return false
	}
	a, b := x.Hours[hour], x.Hours[hour+1]
	return a.Day == b.Day && b.Begin-a.End < x.Resurface
}

// longer yields the groups that can be given the next hour, Free behind all of them, each with the place behind that hour.
func longer(x api.Timetable, p place) iter.Seq2[int, place] {
	return func(yield func(int, place) bool) {
		for group := range x.Groups {
			if q, e := give(x, p, group); e == api.OK && !yield(group, q) {
				return
			}
		}
		if q, e := give(x, p, api.Free); e == api.OK {
			yield(api.Free, q)
		}
	}
}

// owned returns what each group has in a place, the seasons before counted.
func owned(x api.Timetable, p place) []int {
	l := make([]int, len(x.Groups))
	for i, g := range x.Groups {
		l[i] = p.given[i] + g.Credit
	}
	return l
}
