// Package ice is layer 1: see shared/doc/01-ice.md.
package ice

import (
	"sort"

	"icehall/api"
)

// Play plays events, and returns what is known then.
func Play(r []api.Zone, l []api.IceEvent) (end []api.Zone, s api.IceSums, index int, e api.Errno) {
	if !validRink(r) {
		return nil, api.IceSums{}, 0, api.ErrArg
	}
	if len(l) > api.MaxIceEvents {
		return nil, api.IceSums{}, 0, api.ErrLong
	}
	k := learn(r)
	for i, v := range l {
		if e := k.take(v); e != api.OK {
			return nil, api.IceSums{}, i, e
		}
	}
	return k.rink(), k.sums, len(l), api.OK
}

// Thin returns where the paint may be covered by too little.
func Thin(r []api.Zone, cover int) ([]int, api.Errno) {
	if !validRink(r) {
		return nil, api.ErrArg
	}
	if cover < 0 || cover > api.MaxIce {
		return nil, api.ErrRange
	}
	var thin []int
	for i, z := range r {
		if z.Ice.Lo-z.Paint.Hi < cover {
			thin = append(thin, i)
		}
	}
	return thin, api.OK
}

// Breaks returns where a machine may break in.
func Breaks(r []api.Zone, t []api.Bearing, path []int, weight int) (int, api.Errno) {
	if !validRink(r) || !validTable(t) {
		return 0, api.ErrArg
	}
	if _, off := first(path, func(z int) bool { return z < 0 || z >= len(r) }); off {
		return 0, api.ErrRange
	}
	if weight < 1 || weight > t[len(t)-1].Weight {
		return 0, api.ErrRange
	}
	row, _ := first(t, func(b api.Bearing) bool { return b.Weight >= weight })
	need := t[row].Ice
	at, breaks := first(path, func(z int) bool { return r[z].Ice.Lo < need })
	if !breaks {
		return 0, api.ErrNone
	}
	return at, api.OK
}

// Keeps returns the first day behind which the ice may be too thin, or too thick.
func Keeps(r []api.Zone, day []api.IceEvent, days, least, most int) (bad, zone int, e api.Errno) {
	if !validRink(r) {
		return 0, 0, api.ErrArg
	}
	if days < 0 || days > api.MaxIceDays || !validBounds(least, most) {
		return 0, 0, api.ErrRange
	}
	now := r
	for d := range days {
		end, _, _, e := Play(now, day)
		if e != api.OK {
			return 0, 0, e
		}
		if i, found := first(end, func(z api.Zone) bool { return z.Ice.Lo < least || z.Ice.Hi > most }); found {
			return d, i, api.OK
		}
		now = end
	}
	return 0, 0, api.ErrNone
}

// Water returns how much water may be frozen in each pass.
func Water(r []api.Zone, worn, planed api.Span, passes, least, most int) (api.Span, api.Errno) {
	if !validRink(r) || !withinIce(worn) || !withinIce(planed) {
		return api.Span{}, api.ErrArg
	}
	if passes < 1 || passes > api.MaxIcePasses || !validBounds(least, most) {
		return api.Span{}, api.ErrRange
	}
	w := work{worn: worn, planed: planed, passes: passes}
	// More water makes no ice thinner, so each bound parts the amounts in two and can be searched for by itself.
	enough := sort.Search(api.MaxIce+1, func(water int) bool {
		return !w.ever(r, water, func(s sheet) bool { return s.Lo < least })
	})
	tooMuch := sort.Search(api.MaxIce+1, func(water int) bool {
		return w.ever(r, water, func(s sheet) bool { return s.Hi > most })
	})
	if enough >= tooMuch {
		return api.Span{}, api.ErrNone
	}
	return api.Span{Lo: enough, Hi: tooMuch - 1}, api.OK
}
