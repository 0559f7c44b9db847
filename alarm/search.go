package alarm

import (
	"cmp"
	"slices"

	"icehall/api"
)

// beyond is in the place of a concentration, or of a threshold, that there is not.
const beyond = api.MaxGas + 1

// inOrder returns a list in the order of a number of its elements, the least first.
func inOrder[T any](l []T, number func(T) int) []T {
	l = slices.Clone(l)
	slices.SortStableFunc(l, func(a, b T) int { return cmp.Compare(number(a), number(b)) })
	return l
}

// worst returns how much there can be without an alarm, and the first minute in which there can be so much, or ErrNone if that is MaxGas.
func worst(v api.Voting, threshold, rise, from, to int) (most, minute int, e api.Errno) {
	most, minute = -1, from
search:
	for at := from; at <= to; at++ {
		number := func(s api.Sensor) int { return sureFrom(s, threshold, rise, at) }
		for i, s := range inOrder(v.Sensors, number) {
			n := number(s)
			if n > api.MaxGas {
				break
			}
			// Those that have failed may be the very ones that would say yes first.
			if i+1 < v.Votes+v.Failed {
				continue
			}
			if n-1 > most {
				most, minute = n-1, at
			}
			continue search
		}
		// Not even MaxGas makes enough of them surely say yes.
		return 0, 0, api.ErrNone
	}
	return most, minute, api.OK
}

// sureFrom returns the least concentration in a minute with which a sensor that has not failed surely says yes then, however late it rose.
func sureFrom(s api.Sensor, threshold, rise, minute int) int {
	switch {
	case minute < s.First:
		return beyond
	case threshold+s.Err == 0:
		return 0 // It cannot read less than 0, however long ago that was.
	}
	return threshold + s.Err + rise*((minute-s.First)%s.Every)
}

// quietFrom returns the least threshold that is quiet at calm.
func quietFrom(v api.Voting, calm int) int {
	if v.Failed >= v.Votes {
		return beyond
	}
	worse := inOrder(v.Sensors, func(s api.Sensor) int { return -s.Err })
	return calm + worse[v.Votes-v.Failed-1].Err + 1
}

// thresholds returns the thresholds that are quiet at calm, and with which there never can be limit, or more, without an alarm.
func thresholds(v api.Voting, limit, rise, calm, from, to int) (api.Span, api.Errno) {
	low := quietFrom(v, calm)
	most, _, e := worst(v, low, rise, from, to)
	if e != api.OK || most >= limit {
		return api.Span{}, api.ErrNone
	}
	// Above 0, where all quiet ones are, each threshold lets just one more pass than the one below it.
	return api.Span{Lo: low, Hi: low + limit - 1 - most}, api.OK
}
