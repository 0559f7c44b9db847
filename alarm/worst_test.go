package alarm_test

import (
	"math/rand"
	"slices"
	"testing"

	"icehall/alarm"
	"icehall/api"
)

// worstCase is a call of Worst, and what it has to return.
type worstCase struct {
	name                      string
	v                         api.Voting
	threshold, rise, from, to int
	most, minute              int
	e                         api.Errno
}

// P4.2: the examples of the document, and what is seen at once.
func TestWorst(t *testing.T) {
	half := func(votes, failed int) api.Voting {
		return api.Voting{Sensors: []api.Sensor{{Every: 3}, {Every: 2}}, Votes: votes, Failed: failed}
	}
	late := example(2, 0)
	late.Sensors[1].First, late.Sensors[2].First = 9, 9
	top := api.MaxGas
	for _, c := range []worstCase{
		{"the example", example(2, 0), 50, 10, 1, 30, 73, 3, api.OK},
		{"the example, one failed", example(2, 1), 50, 10, 1, 30, 91, 4, api.OK},
		{"the example, two failed", example(2, 2), 50, 10, 1, 30, 0, 0, api.ErrNone},
		{"one minute", example(2, 0), 50, 10, 10, 10, 53, 10, api.OK},
		{"the first minute", example(2, 0), 50, 10, 0, 0, 54, 0, api.OK},
		{"one has not read", example(3, 0), 50, 10, 0, 0, 0, 0, api.ErrNone},
		{"one has not read at first", example(2, 1), 50, 10, 0, 30, 0, 0, api.ErrNone},
		{"two read late", late, 50, 10, 8, 30, 0, 0, api.ErrNone},
		{"two have read by then", late, 50, 10, 9, 30, 73, 17, api.OK},
		{"it does not rise", example(2, 1), 50, 0, 1, 30, 54, 1, api.OK},
		{"the threshold is 0", half(1, 0), 0, 10, 0, 30, -1, 0, api.OK},
		{"the threshold is 0, from 7 on", half(2, 0), 0, 10, 7, 30, -1, 7, api.OK},
		{"the threshold is 1", half(2, 0), 1, 10, 0, 30, 20, 2, api.OK},
		{"the threshold is 0, all but one have failed", half(1, 1), 0, top, 3, 3, -1, 3, api.OK},
		{"the threshold is 0, but not exact", single(4, 9, 1), 0, 5, 4, 12, 40, 12, api.OK},
		{"the threshold is 0, and nothing was read", single(4, 9, 0), 0, 5, 3, 12, 0, 0, api.ErrNone},
		{"as much in several minutes", single(0, 4, 0), 10, 1, 0, 30, 12, 3, api.OK},
		{"as much in several minutes, later", single(0, 4, 0), 10, 1, 4, 30, 12, 7, api.OK},
		{"below MaxGas", single(0, 1, 1), top - 1, 0, 0, 5, top - 1, 0, api.OK},
		{"MaxGas", single(0, 1, 2), top - 1, 0, 0, 5, 0, 0, api.ErrNone},
		{"MaxGas in the last minute", single(0, 6, 0), top - 4, 1, 0, 5, 0, 0, api.ErrNone},
		{"not quite MaxGas", single(0, 6, 0), top - 5, 1, 0, 5, top - 1, 5, api.OK},
		{"the fastest rise", single(0, 2, 0), 1, top, 0, 5, 0, 0, api.ErrNone},
		{"the fastest rise, read each minute", single(0, 1, 0), top, top, 0, api.MaxMinutes, top - 1, 0, api.OK},
		{"the last minute", single(api.MaxMinutes, api.MaxEvery, 7), 8, top, api.MaxMinutes, api.MaxMinutes, 14, api.MaxMinutes, api.OK},
		{"every MaxEvery minutes", single(1, api.MaxEvery, 0), 0, 1, 1, api.MaxMinutes, -1, 1, api.OK},
		{"every MaxEvery minutes, rising", single(1, api.MaxEvery, 0), 1, 2, 1, api.MaxMinutes, 2 * (api.MaxEvery - 1), api.MaxEvery, api.OK},
		{"the greatest numbers", greatest(), top, top, 0, api.MaxMinutes, 0, 0, api.ErrNone},
	} {
		if n, m, e := alarm.Worst(c.v, c.threshold, c.rise, c.from, c.to); n != c.most || m != c.minute || e != c.e {
			t.Errorf("%s: %d, %d, error %d; want %d, %d, %d", c.name, n, m, e, c.most, c.minute, c.e)
		}
	}
}

// P4.2: the errors, in their order.
func TestWorstErrors(t *testing.T) {
	for _, c := range []worstCase{
		{name: "threshold below 0", threshold: -1, rise: 10, from: 1, to: 30},
		{name: "threshold above MaxGas", threshold: api.MaxGas + 1, rise: 10, from: 1, to: 30},
		{name: "rise below 0", threshold: 50, rise: -1, from: 1, to: 30},
		{name: "rise above MaxGas", threshold: 50, rise: api.MaxGas + 1, from: 1, to: 30},
		{name: "from below 0", threshold: 50, rise: 10, from: -1, to: 30},
		{name: "from above to", threshold: 50, rise: 10, from: 31, to: 30},
		{name: "both below 0", threshold: 50, rise: 10, from: -2, to: -1},
		{name: "to above MaxMinutes", threshold: 50, rise: 10, from: 1, to: api.MaxMinutes + 1},
	} {
		// With Failed 2 there is none, but a range is looked at before.
		for _, v := range []api.Voting{example(2, 1), example(2, 2)} {
			if n, m, e := alarm.Worst(v, c.threshold, c.rise, c.from, c.to); n != 0 || m != 0 || e != api.ErrRange {
				t.Errorf("%s: %d, %d, error %d", c.name, n, m, e)
			}
		}
	}
	for name, v := range badVotings() {
		for _, threshold := range []int{-1, 50} {
			if n, m, e := alarm.Worst(v, threshold, 10, 1, 30); n != 0 || m != 0 || e != api.ErrArg {
				t.Errorf("%s: %d, %d, error %d", name, n, m, e)
			}
		}
	}
}

// P4.2 and P4.6: all courses, all readings and all failures are followed; there is no more than Worst tells, and there is as much.
func TestWorstOfAll(t *testing.T) {
	rnd := rand.New(rand.NewSource(42))
	// No number of a sensor comes up to top, so that what comes up to it has no bound.
	const last, top = 8, 30
	bounds, none, nothing := 0, 0, 0
	for range 3000 {
		v := anyVoting(rnd, 3)
		threshold, rise := rnd.Intn(6), rnd.Intn(4)
		if rnd.Intn(4) == 0 {
			threshold = 0
			for i := range v.Sensors {
				v.Sensors[i].Err /= 3
			}
		}
		most := followWorst(v, threshold, rise, last, top)
		from := rnd.Intn(last + 1)
		to := from + rnd.Intn(last+1-from)
		n, m, e := alarm.Worst(v, threshold, rise, from, to)
		want, why := slices.Max(most[from:to+1]), api.OK
		minute := from + slices.Index(most[from:to+1], want)
		switch {
		case want == top:
			want, minute, why = 0, 0, api.ErrNone
			none++
		case want == -1:
			nothing++
		default:
			bounds++
		}
		if n != want || m != minute || e != why {
			t.Fatalf("Worst(%v, %d, %d, %d, %d): %d, %d, error %d; want %d, %d, %d", v, threshold, rise, from, to, n, m, e, want, minute, why)
		}
	}
	if min(bounds, none, nothing) < 30 {
		t.Error("not all ends were seen:", bounds, none, nothing)
	}
}

// P11: the order of the sensors makes no difference.
func TestSensorsAnyOrder(t *testing.T) {
	rnd := rand.New(rand.NewSource(420))
	for range 2000 {
		v := anyVoting(rnd, api.MaxGasSensors)
		w := clone(v)
		rnd.Shuffle(len(w.Sensors), func(i, j int) { w.Sensors[i], w.Sensors[j] = w.Sensors[j], w.Sensors[i] })
		n1, m1, e1 := alarm.Worst(v, 3, 2, 4, 30)
		n2, m2, e2 := alarm.Worst(w, 3, 2, 4, 30)
		if n1 != n2 || m1 != m2 || e1 != e2 {
			t.Fatalf("Worst(%v): %d, %d, error %d; in another order %d, %d, %d", v, n1, m1, e1, n2, m2, e2)
		}
		for threshold := range 6 {
			if mustQuiet(t, v, threshold, 2) != mustQuiet(t, w, threshold, 2) {
				t.Fatalf("Quiet(%v, %d, 2) is different in another order", v, threshold)
			}
		}
		b1, s1, e1 := alarm.Best(v.Sensors, v.Failed, 15, 2, 2, 4, 30)
		b2, s2, e2 := alarm.Best(w.Sensors, w.Failed, 15, 2, 2, 4, 30)
		if b1 != b2 || s1 != s2 || e1 != e2 {
			t.Fatalf("Best(%v): %d, %v, error %d; in another order %d, %v, %d", v, b1, s1, e1, b2, s2, e2)
		}
	}
}
