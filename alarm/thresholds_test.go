package alarm_test

import (
	"math/rand"
	"testing"

	"icehall/alarm"
	"icehall/api"
)

// ask is what Thresholds is asked for.
type ask struct{ limit, rise, calm, from, to int }

func (a ask) thresholds(v api.Voting) (api.Span, api.Errno) {
	return alarm.Thresholds(v, a.limit, a.rise, a.calm, a.from, a.to)
}

func (a ask) best(l []api.Sensor, failed int) (int, api.Span, api.Errno) {
	return alarm.Best(l, failed, a.limit, a.rise, a.calm, a.from, a.to)
}

// badAsks returns what cannot be asked for, by what is wrong with it.
func badAsks() map[string]ask {
	bad := map[string]ask{}
	for name, change := range map[string]func(a *ask){
		"limit below 0":       func(a *ask) { a.limit = -1 },
		"limit above MaxGas":  func(a *ask) { a.limit = api.MaxGas + 1 },
		"rise below 0":        func(a *ask) { a.rise = -1 },
		"rise above MaxGas":   func(a *ask) { a.rise = api.MaxGas + 1 },
		"calm below 0":        func(a *ask) { a.calm = -1 },
		"calm above MaxGas":   func(a *ask) { a.calm = api.MaxGas + 1 },
		"from below 0":        func(a *ask) { a.from = -1 },
		"from above to":       func(a *ask) { a.from = 31 },
		"both below 0":        func(a *ask) { a.from, a.to = -2, -1 },
		"to above MaxMinutes": func(a *ask) { a.to = api.MaxMinutes + 1 },
	} {
		a := ask{100, 10, 30, 1, 30}
		change(&a)
		bad[name] = a
	}
	return bad
}

func span(lo, hi int) api.Span { return api.Span{Lo: lo, Hi: hi} }

// P4.4: the example of the document, and what is seen at once.
func TestThresholds(t *testing.T) {
	top := api.MaxGas
	for _, c := range []struct {
		name string
		v    api.Voting
		a    ask
		want api.Span
		e    api.Errno
	}{
		{"the example", example(2, 1), ask{100, 10, 30, 1, 30}, span(36, 58), api.OK},
		{"none has failed", example(2, 0), ask{100, 10, 30, 1, 30}, span(35, 76), api.OK},
		{"two have failed", example(2, 2), ask{100, 10, 30, 1, 30}, span(0, 0), api.ErrNone},
		{"all have failed", example(3, 3), ask{100, 10, 30, 1, 30}, span(0, 0), api.ErrNone},
		{"just one", example(2, 1), ask{78, 10, 30, 1, 30}, span(36, 36), api.OK},
		{"just none", example(2, 1), ask{77, 10, 30, 1, 30}, span(0, 0), api.ErrNone},
		{"too early", example(2, 1), ask{100, 10, 30, 0, 30}, span(0, 0), api.ErrNone},
		{"the limit is 0", single(0, 1, 0), ask{0, 0, 0, 0, 0}, span(0, 0), api.ErrNone},
		{"the limit is 1", single(0, 1, 0), ask{1, 0, 0, 0, 0}, span(1, 1), api.OK},
		{"the limit is MaxGas", single(0, 1, 0), ask{top, top, 0, 0, api.MaxMinutes}, span(1, top), api.OK},
		{"the limit is MaxGas, not exact", single(0, 1, 3), ask{top, top, 0, 0, api.MaxMinutes}, span(4, top-3), api.OK},
		{"calm below the limit", single(0, 1, 0), ask{top, top, top - 1, 0, api.MaxMinutes}, span(top, top), api.OK},
		{"calm is the limit", single(0, 1, 0), ask{top, 0, top, 0, 9}, span(0, 0), api.ErrNone},
		{"calm above the limit", single(0, 1, 0), ask{50, 0, 60, 0, 9}, span(0, 0), api.ErrNone},
		{"nothing is sure", single(0, 1, top), ask{top, 0, 0, 0, 9}, span(0, 0), api.ErrNone},
		{"the fastest rise", single(0, 2, 0), ask{top, top, 0, 0, 9}, span(0, 0), api.ErrNone},
		{"the greatest numbers", greatest(), ask{top, top, top, 0, api.MaxMinutes}, span(0, 0), api.ErrNone},
	} {
		if s, e := c.a.thresholds(c.v); s != c.want || e != c.e {
			t.Errorf("%s: %v, error %d; want %v, %d", c.name, s, e, c.want, c.e)
		}
	}
}

// P4.4 and P4.5: the errors, in their order.
func TestThresholdsErrors(t *testing.T) {
	for name, a := range badAsks() {
		// With Failed 3 there is none, but a range is looked at before.
		for _, v := range []api.Voting{example(2, 1), example(2, 3)} {
			if s, e := a.thresholds(v); s != span(0, 0) || e != api.ErrRange {
				t.Errorf("%s: %v, error %d", name, s, e)
			}
			if n, s, e := a.best(v.Sensors, v.Failed); n != 0 || s != span(0, 0) || e != api.ErrRange {
				t.Errorf("%s: %d, %v, error %d", name, n, s, e)
			}
		}
	}
	for name, v := range badVotings() {
		for _, a := range []ask{{100, 10, 30, 1, 30}, {-1, 10, 30, 1, 30}} {
			if s, e := a.thresholds(v); s != span(0, 0) || e != api.ErrArg {
				t.Errorf("%s: %v, error %d", name, s, e)
			}
			if 1 <= v.Votes && v.Votes <= 3 { // Best is not given Votes.
				if n, s, e := a.best(v.Sensors, v.Failed); n != 0 || s != span(0, 0) || e != api.ErrArg {
					t.Errorf("%s: %d, %v, error %d", name, n, s, e)
				}
			}
		}
	}
	for _, l := range [][]api.Sensor{nil, {}} {
		if n, s, e := (ask{100, 10, 30, 1, 30}).best(l, 0); n != 0 || s != span(0, 0) || e != api.ErrArg {
			t.Error("no sensors:", n, s, e)
		}
	}
}

// anyAsk returns something small to ask for.
func anyAsk(rnd *rand.Rand) ask {
	a := ask{rnd.Intn(25), rnd.Intn(4), rnd.Intn(6), rnd.Intn(9), 0}
	a.to = a.from + rnd.Intn(12)
	return a
}

// P4.4: each threshold is tried, alone, and those that are found are all in a row.
func TestThresholdsOfAll(t *testing.T) {
	rnd := rand.New(rand.NewSource(44))
	found := 0
	for range 3000 {
		v, a := anyVoting(rnd, 5), anyAsk(rnd)
		var all []int
		for n := range a.limit + 5 {
			if mustQuiet(t, v, n, a.calm) && mustWorst(t, v, n, a.rise, a.from, a.to) < a.limit {
				all = append(all, n)
			}
		}
		s, e := a.thresholds(v)
		if len(all) == 0 {
			if s != span(0, 0) || e != api.ErrNone {
				t.Fatalf("Thresholds(%v, %v): %v, error %d; there is none", v, a, s, e)
			}
			continue
		}
		found++
		lo, hi := all[0], all[len(all)-1]
		if hi-lo+1 != len(all) || s != span(lo, hi) || e != api.OK {
			t.Fatalf("Thresholds(%v, %v): %v, error %d; want %v", v, a, s, e, all)
		}
	}
	if found < 300 || found > 2700 {
		t.Error("thresholds were found", found, "times")
	}
}

// P4.4: those at both ends of the span hold, and those beyond do not, also with great numbers.
func TestThresholdsEnds(t *testing.T) {
	rnd := rand.New(rand.NewSource(440))
	found := 0
	for range 300 {
		var v api.Voting
		for range 1 + rnd.Intn(api.MaxGasSensors) {
			v.Sensors = append(v.Sensors, api.Sensor{First: rnd.Intn(50), Every: 1 + rnd.Intn(100), Err: rnd.Intn(1 + rnd.Intn(api.MaxGas/8))})
		}
		v.Votes = 1 + rnd.Intn(len(v.Sensors))
		v.Failed = rnd.Intn(v.Votes)
		a := ask{api.MaxGas - rnd.Intn(api.MaxGas/2), rnd.Intn(5000), rnd.Intn(api.MaxGas / 8), 50, 60 + rnd.Intn(500)}
		s, e := a.thresholds(v)
		if e != api.OK {
			continue
		}
		found++
		holds := func(n int) bool {
			return mustQuiet(t, v, n, a.calm) && mustWorst(t, v, n, a.rise, a.from, a.to) < a.limit
		}
		if s.Lo > s.Hi || !holds(s.Lo) || !holds(s.Hi) || holds(s.Lo-1) || s.Hi < api.MaxGas && holds(s.Hi+1) {
			t.Fatalf("Thresholds(%v, %v): %v", v, a, s)
		}
	}
	if found < 30 {
		t.Error("thresholds were found", found, "times")
	}
}

// P4.5: the example of the document, and what is seen at once.
func TestBest(t *testing.T) {
	a := ask{100, 10, 30, 1, 30}
	low := a
	low.limit = 77
	twins := func(n int) []api.Sensor { return make([]api.Sensor, n) }
	each := func(l []api.Sensor) []api.Sensor {
		for i := range l {
			l[i].Every = 1
		}
		return l
	}
	for _, c := range []struct {
		name   string
		l      []api.Sensor
		failed int
		a      ask
		votes  int
		want   api.Span
		e      api.Errno
	}{
		{"the example", example(1, 0).Sensors, 1, a, 2, span(36, 58), api.OK},
		{"none has failed", example(1, 0).Sensors, 0, a, 1, span(36, 85), api.OK},
		{"two have failed", example(1, 0).Sensors, 2, a, 0, span(0, 0), api.ErrNone},
		{"all have failed", example(1, 0).Sensors, 3, a, 0, span(0, 0), api.ErrNone},
		{"a lower limit", example(1, 0).Sensors, 1, low, 0, span(0, 0), api.ErrNone},
		{"all votes are the same", each(twins(5)), 0, a, 1, span(31, 100), api.OK},
		{"two votes and more are the same", each(twins(5)), 1, a, 2, span(31, 100), api.OK},
		{"as many as there can be", each(twins(api.MaxGasSensors)), 5, a, 6, span(31, 100), api.OK},
		{"half of them, and more", each(twins(api.MaxGasSensors)), 6, a, 0, span(0, 0), api.ErrNone},
		{"one that is not exact", []api.Sensor{{Every: 1, Err: 30}, {Every: 1}, {Every: 1}}, 0, a, 2, span(31, 100), api.OK},
		{"the last one reads seldom", []api.Sensor{{Every: 1, Err: 9}, {Every: 7}}, 0, a, 1, span(40, 91), api.OK},
		{"the last vote", []api.Sensor{{Every: 1, Err: 9}, {Every: 1, Err: 9}}, 0, a, 1, span(40, 91), api.OK},
	} {
		if n, s, e := c.a.best(c.l, c.failed); n != c.votes || s != c.want || e != c.e {
			t.Errorf("%s: %d, %v, error %d; want %d, %v, %d", c.name, n, s, e, c.votes, c.want, c.e)
		}
	}
}

// P4.5: how many may have failed is looked at ahead of what is asked for.
func TestBestFailed(t *testing.T) {
	for _, failed := range []int{odd[0], -1, 4, odd[len(odd)-1]} {
		if n, s, e := (ask{-1, 10, 30, 1, 30}).best(example(1, 0).Sensors, failed); n != 0 || s != span(0, 0) || e != api.ErrArg {
			t.Error(failed, "failed:", n, s, e)
		}
	}
}

// P4.5 and P4.8: no other number of votes leaves more thresholds, and no lesser one as many.
func TestBestOfAll(t *testing.T) {
	rnd := rand.New(rand.NewSource(45))
	seen := map[int]int{}
	for range 5000 {
		v, a := anyVoting(rnd, 6), anyAsk(rnd)
		a.limit += 5
		v.Failed = rnd.Intn(3) % (len(v.Sensors) + 1)
		votes, want, most := 0, span(0, 0), 0
		for n := 1; n <= len(v.Sensors); n++ {
			v.Votes = n
			if s, e := a.thresholds(v); e == api.OK && s.Hi-s.Lo+1 > most {
				votes, want, most = n, s, s.Hi-s.Lo+1
			}
		}
		why := api.OK
		if most == 0 {
			why = api.ErrNone
		}
		n, s, e := a.best(v.Sensors, v.Failed)
		seen[n]++
		if n != votes || s != want || e != why {
			t.Fatalf("Best(%v, %d, %v): %d, %v, error %d; want %d, %v, %d", v.Sensors, v.Failed, a, n, s, e, votes, want, why)
		}
	}
	if min(seen[0], seen[1], seen[2], seen[3]) < 50 || seen[4] == 0 {
		t.Error("not all ends were seen:", seen)
	}
}
