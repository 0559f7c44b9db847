package alarm

import (
	"iter"

	"icehall/api"
)

// ballot is which sensors say yes: a bit for each.
type ballot uint

// say returns the ballot with what a sensor says now.
func (b ballot) say(sensor int, yes bool) ballot {
	if yes {
		return b | 1<<sensor
	}
	return b &^ (1 << sensor)
}

// count returns how many sensors say yes.
func (b ballot) count() int {
	n := 0
	for i := range api.MaxGasSensors {
		n += int(b >> i & 1)
	}
	return n
}

// listen returns the first minute in which there is an alarm, or the error of the first reading that cannot be, wherever it is.
func listen(v api.Voting, threshold int, l []api.Sniff) (first int, e api.Errno) {
	defer func() {
		if why := recover(); why != nil {
			first, e = 0, cause(why)
		}
	}()
	e = api.ErrNone
	var said ballot
	// An alarm does not end the loop: a reading behind it may be one that cannot be.
	for minute, now := range minutes(l, len(v.Sensors)) {
		for _, r := range now {
			said = said.say(r.Sensor, r.Value >= threshold)
		}
		if e == api.ErrNone && said.count() >= v.Votes {
			first, e = minute, api.OK
		}
	}
	return first, e
}

// minutes gives the minutes in which there are readings, each with its readings. It panics with the error of the first reading that cannot be.
func minutes(l []api.Sniff, sensors int) iter.Seq2[int, []api.Sniff] {
	return func(yield func(int, []api.Sniff) bool) {
		begin := 0
		for i, r := range l {
			check(r, l[begin].Minute, sensors)
			if now := l[begin].Minute; r.Minute != now {
				if !yield(now, l[begin:i]) {
					return
				}
				begin = i
			}
		}
		if begin < len(l) {
			yield(l[begin].Minute, l[begin:])
		}
	}
}

// check panics with the error of a reading that cannot be, if there are so many sensors, and the reading ahead of it is of the minute before.
func check(r api.Sniff, before, sensors int) {
	switch {
	case r.Minute < 0 || r.Minute > api.MaxTime || r.Sensor < 0 || r.Sensor >= sensors:
		panic(api.ErrArg)
	case r.Minute < before:
		panic(api.ErrOrder)
	}
}

// cause returns the error with which a panic came. A panic without one is never taken for success.
func cause(why any) api.Errno {
	if e, ok := why.(api.Errno); ok {
		return e
	}
	return api.ErrArg
}
