package alarm_test

import (
	"cmp"
	"math"
	"math/rand"
	"slices"
	"testing"

	"icehall/alarm"
	"icehall/api"
)

// heard returns what sensors read on a course: those that have failed anything, the others what value tells of the concentration and their error.
func heard(v api.Voting, course []int, failed []int, broken func() int, value func(gas, err int) int) []api.Sniff {
	var l []api.Sniff
	for minute, gas := range course {
		for i, s := range v.Sensors {
			switch {
			case !reads(s, minute):
			case slices.Contains(failed, i):
				l = append(l, sniff(minute, i, broken()))
			default:
				l = append(l, sniff(minute, i, value(gas, s.Err)))
			}
		}
	}
	return l
}

// anyCourse returns a course that mostly rises, and stays below top.
func anyCourse(rnd *rand.Rand, rise, last, top int) []int {
	course := []int{rnd.Intn(top)}
	for range last {
		gas := course[len(course)-1] + rise
		if rnd.Intn(3) == 0 {
			gas = rnd.Intn(gas + 1)
		}
		course = append(course, min(gas, top))
	}
	return course
}

// P4.6: whatever the course is, and whatever is read, there is an alarm as soon as there is more than Worst tells.
func TestNeverMore(t *testing.T) {
	rnd := rand.New(rand.NewSource(46))
	alarms := 0
	for range 6000 {
		v := anyVoting(rnd, 6)
		threshold, rise, last := rnd.Intn(12), rnd.Intn(4), rnd.Intn(30)
		from := rnd.Intn(last + 1)
		most := mustWorst(t, v, threshold, rise, from, last)
		course := anyCourse(rnd, rise, last, 40)
		failed := rnd.Perm(len(v.Sensors))[:v.Failed]
		l := heard(v, course, failed, func() int { return 60*rnd.Intn(2) - 20 }, func(gas, err int) int { return gas - err + rnd.Intn(2*err+1)/(1+rnd.Intn(2)) })
		first := mustAlarm(t, v, threshold, l)
		for minute := from; minute <= last; minute++ {
			if course[minute] <= most {
				continue
			}
			alarms++
			if first > minute {
				t.Fatalf("%v, threshold %d, rise %d, from %d: %d in minute %d without an alarm; Worst tells %d", v, threshold, rise, from, course[minute], minute, most)
			}
		}
	}
	if alarms < 5000 {
		t.Error("there was more", alarms, "times")
	}
}

// P4.6: there is a course on which there is just so much without an alarm, up to great numbers.
func TestJustSoMuch(t *testing.T) {
	rnd := rand.New(rand.NewSource(460))
	found := 0
	for range 3000 {
		v := anyVoting(rnd, 8)
		threshold, rise := rnd.Intn(12), rnd.Intn(4)
		if rnd.Intn(2) == 0 {
			threshold, rise = rnd.Intn(api.MaxGas), rnd.Intn(api.MaxGas/4)
		}
		from := 4 + rnd.Intn(20)
		most, minute, e := alarm.Worst(v, threshold, rise, from, from+rnd.Intn(20))
		if e != api.OK || most < 0 {
			continue
		}
		found++
		// It rises as late as it can, all read as little as they can, and those have failed that would say yes first.
		var course []int
		for m := range minute + 1 {
			course = append(course, max(0, most-rise*(minute-m)))
		}
		last := make([]int, len(v.Sensors))
		for i, s := range v.Sensors {
			last[i] = math.MinInt
			for m, gas := range course {
				if reads(s, m) {
					last[i] = gas - s.Err
				}
			}
		}
		order := rnd.Perm(len(v.Sensors))
		slices.SortFunc(order, func(i, j int) int { return cmp.Compare(last[j], last[i]) })
		l := heard(v, course, order[:v.Failed], func() int { return threshold - 1 }, func(gas, err int) int { return gas - err })
		if first := mustAlarm(t, v, threshold, l); first <= minute {
			t.Fatalf("%v, threshold %d, rise %d: an alarm in minute %d; Worst tells %d in minute %d", v, threshold, rise, first, most, minute)
		}
	}
	if found < 500 {
		t.Error("something was found", found, "times")
	}
}

// P4.7: with a threshold of Thresholds there never is limit without an alarm, and never an alarm at calm.
func TestNeitherLateNorFalse(t *testing.T) {
	rnd := rand.New(rand.NewSource(47))
	found := 0
	for range 6000 {
		v, a := anyVoting(rnd, 6), anyAsk(rnd)
		a.limit += 8
		s, e := a.thresholds(v)
		if e != api.OK {
			continue
		}
		found++
		threshold := s.Lo + rnd.Intn(s.Hi-s.Lo+1)
		failed := rnd.Perm(len(v.Sensors))[:v.Failed]
		value := func(gas, err int) int { return gas - err + rnd.Intn(2*err+1) }
		broken := func() int { return 60*rnd.Intn(2) - 20 }
		course := anyCourse(rnd, a.rise, a.to, a.limit+1)
		first := mustAlarm(t, v, threshold, heard(v, course, failed, broken, value))
		for minute := a.from; minute <= a.to; minute++ {
			if course[minute] >= a.limit && first > minute {
				t.Fatalf("%v, %v, threshold %d: %d in minute %d without an alarm", v, a, threshold, course[minute], minute)
			}
		}
		for i := range course {
			course[i] = rnd.Intn(a.calm + 1)
		}
		if first := mustAlarm(t, v, threshold, heard(v, course, failed, broken, value)); first != math.MaxInt {
			t.Fatalf("%v, %v, threshold %d: a false alarm in minute %d", v, a, threshold, first)
		}
	}
	if found < 1000 {
		t.Error("thresholds were found", found, "times")
	}
}

// P4.7: with fewer that may have failed, lesser errors, or a slower rise there never is more without an alarm; nor with a lower threshold.
func TestWorstLess(t *testing.T) {
	rnd := rand.New(rand.NewSource(470))
	less := make([]int, 4)
	for range 5000 {
		v := anyVoting(rnd, 6)
		threshold, rise, from := 1+rnd.Intn(6), 1+rnd.Intn(4), rnd.Intn(9)
		to := from + rnd.Intn(20)
		most := mustWorst(t, v, threshold, rise, from, to)
		fewer, lesser := clone(v), clone(v)
		fewer.Failed = max(0, fewer.Failed-1)
		s := &lesser.Sensors[rnd.Intn(len(v.Sensors))]
		s.Err = max(0, s.Err-1)
		for i, now := range []int{
			mustWorst(t, fewer, threshold, rise, from, to),
			mustWorst(t, lesser, threshold, rise, from, to),
			mustWorst(t, v, threshold, rise-1, from, to),
			mustWorst(t, v, threshold-1, rise, from, to),
		} {
			if now > most {
				t.Fatalf("Worst(%v, %d, %d, %d, %d): %d; with change %d it is %d", v, threshold, rise, from, to, most, i, now)
			}
			if now < most {
				less[i]++
			}
		}
	}
	if slices.Min(less) == 0 {
		t.Error("something never made it less:", less)
	}
}

// P4.7: what is quiet stays so with fewer that may have failed, lesser errors, or a higher threshold.
func TestQuietMore(t *testing.T) {
	rnd := rand.New(rand.NewSource(471))
	for range 5000 {
		v := anyVoting(rnd, 6)
		threshold, calm := rnd.Intn(9), rnd.Intn(5)
		if !mustQuiet(t, v, threshold, calm) {
			continue
		}
		w := clone(v)
		w.Failed = rnd.Intn(w.Failed + 1)
		for i := range w.Sensors {
			w.Sensors[i].Err = rnd.Intn(w.Sensors[i].Err + 1)
		}
		if !mustQuiet(t, w, threshold+rnd.Intn(3), rnd.Intn(calm+1)) {
			t.Fatalf("%v is quiet at %d with %d, but %v is not", v, calm, threshold, w)
		}
	}
}
