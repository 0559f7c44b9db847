package hours

import "icehall/api"

// within returns whether n is from least to most.
func within(n, least, most int) bool { return least <= n && n <= most }

// validTimetable returns whether a timetable is valid.
func validTimetable(x api.Timetable) bool {
	if !within(x.Resurface, 0, api.MaxResurface) || len(x.Groups) > api.MaxGroups || len(x.Hours) > api.MaxIceHours {
		return false
	}
	for _, g := range x.Groups {
		if !validGroup(g) {
			return false
		}
	}
	for i, h := range x.Hours {
		if !validHour(h) || i > 0 && !follows(x.Hours[i-1], h) {
			return false
		}
	}
	return true
}

// validGroup returns whether a group is valid.
func validGroup(g api.Group) bool {
	return within(g.Days, 0, 127) && within(g.Early, 0, api.MaxMinute) && within(g.Late, 0, api.MaxMinute) &&
		within(g.Most, 0, api.MaxIceHours) && within(g.Credit, 0, api.MaxCredit)
}

// validHour returns whether an hour is valid.
func validHour(h api.IceHour) bool {
	return within(h.Day, 0, 6) && 0 <= h.Begin && h.Begin < h.End && h.End <= api.MaxMinute
}

// follows returns whether an hour may stand behind another one in a timetable.
func follows(ahead, h api.IceHour) bool {
	return h.Day > ahead.Day || h.Day == ahead.Day && h.Begin >= ahead.End
}

// validPlan returns whether a plan gives each hour of a valid timetable to a group, or to none.
func validPlan(x api.Timetable, plan []int) bool {
	if len(plan) != len(x.Hours) {
		return false
	}
	for _, group := range plan {
		if group != api.Free && !within(group, 0, len(x.Groups)-1) {
			return false
		}
	}
	return true
}

// validLeast returns whether there is a number of hours for each group of a valid timetable.
func validLeast(x api.Timetable, least []int) bool {
	if len(least) != len(x.Groups) {
		return false
	}
	for _, n := range least {
		if !within(n, 0, api.MaxIceHours) {
			return false
		}
	}
	return true
}
