package ice

import "icehall/api"

// first returns the index of the first element of a list for which holds is true, and whether there is one.
func first[E any](l []E, holds func(E) bool) (int, bool) {
	for i, x := range l {
		if holds(x) {
			return i, true
		}
	}
	return 0, false
}

// withinIce returns whether a span is valid and within 0 to MaxIce.
func withinIce(s api.Span) bool {
	return 0 <= s.Lo && s.Lo <= s.Hi && s.Hi <= api.MaxIce
}

// validRink returns whether zones are a rink.
func validRink(r []api.Zone) bool {
	if len(r) < 1 || len(r) > api.MaxZones {
		return false
	}
	_, wrong := first(r, func(z api.Zone) bool { return !withinIce(z.Ice) || !withinIce(z.Paint) })
	return !wrong
}

// validTable returns whether bearings are a table.
func validTable(t []api.Bearing) bool {
	if len(t) < 1 || len(t) > api.MaxBearings {
		return false
	}
	before := api.Bearing{Weight: 0, Ice: -1}
	for _, b := range t {
		if b.Weight <= before.Weight || b.Weight > api.MaxMachine || b.Ice <= before.Ice || b.Ice > api.MaxIce {
			return false
		}
		before = b
	}
	return true
}

// validEvent returns whether an event is valid for a rink of so many zones.
func validEvent(v api.IceEvent, zones int) bool {
	if v.Kind < 0 || v.Kind >= kinds || v.From < 0 || v.From >= zones {
		return false
	}
	if v.Kind != api.Drill && (v.To < v.From || v.To >= zones) {
		return false
	}
	return v.Kind == api.Paint || withinIce(v.Amount)
}

// validBounds returns whether ice can be asked to be from least to most.
func validBounds(least, most int) bool {
	return 0 <= least && least <= most && most <= api.MaxIce
}
