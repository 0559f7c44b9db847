package alarm_test

import (
	"math/rand"
	"slices"
	"testing"

	"icehall/alarm"
	"icehall/api"
)

// R4: no argument is changed, with an error or without one.
func TestArgumentsStay(t *testing.T) {
	broken := append(exampleSniffs(), sniff(3, 0, 0))
	for _, l := range [][]api.Sniff{nil, exampleSniffs(), broken} {
		for _, failed := range []int{0, 1, 2, 9} {
			v, list := example(2, failed), slices.Clone(l)
			alarm.Alarm(v, 50, list)
			alarm.Worst(v, 50, 10, 1, 30)
			alarm.Quiet(v, 50, 44)
			alarm.Thresholds(v, 100, 10, 30, 1, 30)
			alarm.Best(v.Sensors, failed, 100, 10, 30, 1, 30)
			if !same(v, example(2, failed)) || !slices.Equal(list, l) {
				t.Error("an argument was changed", v, list)
			}
		}
	}
}

// R3: nil and empty lists are the same.
func TestNilAndEmpty(t *testing.T) {
	for _, l := range [][]api.Sniff{nil, {}} {
		if m, e := alarm.Alarm(example(1, 0), 0, l); m != 0 || e != api.ErrNone {
			t.Error(m, e)
		}
	}
	for _, l := range [][]api.Sensor{nil, {}} {
		if m, e := alarm.Alarm(api.Voting{Sensors: l, Votes: 1}, 0, nil); m != 0 || e != api.ErrArg {
			t.Error(m, e)
		}
	}
}

// P11: the same call returns the same, whatever was called before.
func TestAgain(t *testing.T) {
	for range 20 {
		alarm.Alarm(example(1, 0), 0, []api.Sniff{sniff(0, 0, 9), sniff(-1, 0, 0)})
		alarm.Worst(greatest(), 1, 1, 0, 9)
		if m, e := alarm.Alarm(example(2, 0), 50, exampleSniffs()); m != 4 || e != api.OK {
			t.Error(m, e)
		}
		if most := mustWorst(t, example(2, 1), 50, 10, 1, 30); most != 91 {
			t.Error(most)
		}
		if n, s, e := (ask{100, 10, 30, 1, 30}).best(example(1, 0).Sensors, 1); n != 2 || s != span(36, 58) || e != api.OK {
			t.Error(n, s, e)
		}
	}
}

// P1 and R2: whatever is given, each function ends without a panic, and with an error nothing else is returned.
func TestAnyArguments(t *testing.T) {
	rnd := rand.New(rand.NewSource(4))
	number := func() int { return odd[rnd.Intn(len(odd))] }
	for range 20000 {
		v, l := example(2, 1), exampleSniffs()
		switch s := &v.Sensors[rnd.Intn(3)]; rnd.Intn(6) {
		case 0:
			*s = api.Sensor{First: number(), Every: number(), Err: number()}
		case 1:
			s.First = number()
		case 2:
			s.Every, s.Err = 1+rnd.Intn(api.MaxEvery), number()
		case 3:
			v.Votes, v.Failed = number(), number()
		}
		if rnd.Intn(2) == 0 {
			l[rnd.Intn(len(l))] = sniff(number(), number(), number())
		}
		threshold, rise, calm, from, to := number(), number(), number(), number(), number()
		if m, e := alarm.Alarm(v, threshold, l); e != api.OK && m != 0 {
			t.Fatal("Alarm", v, threshold, l, m, e)
		}
		if n, m, e := alarm.Worst(v, threshold, rise, from, to); e != api.OK && (n != 0 || m != 0) || e == api.OK && (n < -1 || n >= api.MaxGas || m < from || m > to) {
			t.Fatal("Worst", v, threshold, rise, from, to, n, m, e)
		}
		if is, e := alarm.Quiet(v, threshold, calm); e != api.OK && is {
			t.Fatal("Quiet", v, threshold, calm, is, e)
		}
		a := ask{threshold, rise, calm, from, to}
		if s, e := a.thresholds(v); e != api.OK && s != span(0, 0) || e == api.OK && (s.Lo < 0 || s.Lo > s.Hi || s.Hi > api.MaxGas) {
			t.Fatal("Thresholds", v, a, s, e)
		}
		if n, s, e := a.best(v.Sensors, v.Failed); e != api.OK && (n != 0 || s != span(0, 0)) || e == api.OK && (n < 1 || n > 3 || s.Lo > s.Hi) {
			t.Fatal("Best", v, a, n, s, e)
		}
	}
}
