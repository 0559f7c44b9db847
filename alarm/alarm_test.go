package alarm_test

import (
	"math"
	"math/rand"
	"slices"
	"testing"

	"icehall/alarm"
	"icehall/api"
)

// P4.1: the example of the document, and other readings.
func TestAlarm(t *testing.T) {
	three := func(votes int) api.Voting { return example(votes, 0) }
	for name, c := range map[string]struct {
		v         api.Voting
		threshold int
		l         []api.Sniff
		want      int
		e         api.Errno
	}{
		"the example":                  {three(2), 50, exampleSniffs(), 4, api.OK},
		"one vote":                     {three(1), 50, exampleSniffs(), 0, api.OK},
		"one vote, a bit more":         {three(1), 61, exampleSniffs(), 0, api.ErrNone},
		"a bit less":                   {three(2), 49, exampleSniffs(), 1, api.OK},
		"a bit more":                   {three(2), 51, exampleSniffs(), 0, api.ErrNone},
		"three votes":                  {three(3), 50, exampleSniffs(), 0, api.ErrNone},
		"three votes, of all":          {three(3), 50, append(exampleSniffs(), sniff(4, 2, 50)), 4, api.OK},
		"nothing is read":              {three(1), 50, nil, 0, api.ErrNone},
		"nothing is read, threshold 0": {three(1), 0, []api.Sniff{}, 0, api.ErrNone},
		"yes lasts":                    {three(2), 50, []api.Sniff{sniff(3, 0, 50), sniff(900, 1, 50)}, 900, api.OK},
		"yes ends":                     {three(2), 50, []api.Sniff{sniff(3, 0, 50), sniff(4, 0, 49), sniff(5, 1, 50)}, 0, api.ErrNone},
		"yes ends as another begins":   {three(2), 50, []api.Sniff{sniff(3, 0, 50), sniff(4, 1, 50), sniff(4, 0, 49)}, 0, api.ErrNone},
		"yes again":                    {three(2), 50, []api.Sniff{sniff(3, 0, 50), sniff(4, 0, 49), sniff(5, 1, 50), sniff(6, 0, 50)}, 6, api.OK},
		"yes twice is one vote":        {three(2), 50, []api.Sniff{sniff(3, 0, 50), sniff(4, 0, 99)}, 0, api.ErrNone},
		"the alarm ends":               {three(2), 50, []api.Sniff{sniff(3, 0, 50), sniff(4, 1, 50), sniff(5, 1, 0), sniff(6, 0, 0)}, 4, api.OK},
		"the last one of a minute":     {three(2), 50, []api.Sniff{sniff(7, 0, 90), sniff(7, 1, 90), sniff(7, 0, 0)}, 0, api.ErrNone},
		"the last one, yes":            {three(2), 50, []api.Sniff{sniff(7, 0, 0), sniff(7, 1, 90), sniff(7, 0, 90)}, 7, api.OK},
		"no, then yes, then no":        {three(1), 50, []api.Sniff{sniff(7, 0, 0), sniff(7, 0, 90), sniff(7, 0, 0)}, 0, api.ErrNone},
		"no sensor reads then":         {three(1), 50, []api.Sniff{sniff(0, 1, 50)}, 0, api.OK},
		"below 0":                      {three(1), 0, []api.Sniff{sniff(1, 0, -1), sniff(2, 1, math.MinInt), sniff(3, 2, 0)}, 3, api.OK},
		"the greatest numbers":         {three(1), api.MaxGas, []api.Sniff{sniff(8, 2, api.MaxGas-1), sniff(api.MaxTime, 2, math.MaxInt)}, api.MaxTime, api.OK},
		"failed ones do not matter":    {example(2, 3), 50, exampleSniffs(), 4, api.OK},
		"12 sensors":                   {api.Voting{Sensors: greatest().Sensors, Votes: 1}, 5, []api.Sniff{sniff(6, 11, 5)}, 6, api.OK},
	} {
		if m, e := alarm.Alarm(c.v, c.threshold, c.l); m != c.want || e != c.e {
			t.Errorf("%s: %d, error %d; want %d, %d", name, m, e, c.want, c.e)
		}
	}
}

// P4.1: all sensors count, up to as many as there can be.
func TestAlarmAllVotes(t *testing.T) {
	v := greatest()
	for votes := range api.MaxGasSensors {
		v.Votes = votes + 1
		var l []api.Sniff
		for i := range api.MaxGasSensors {
			l = append(l, sniff(10*i, (5*i+3)%api.MaxGasSensors, 7))
		}
		if m := mustAlarm(t, v, 7, l); m != 10*votes {
			t.Error(v.Votes, "votes:", m)
		}
	}
}

// P4.1: the errors, in their order.
func TestAlarmErrors(t *testing.T) {
	many := make([]api.Sniff, api.MaxSniffs+1)
	many[0].Minute = -1
	early := sniff(2, 0, 90) // There is an alarm then.
	for name, c := range map[string]struct {
		threshold int
		l         []api.Sniff
		e         api.Errno
	}{
		"threshold below 0":            {-1, nil, api.ErrRange},
		"threshold above MaxGas":       {api.MaxGas + 1, many, api.ErrRange},
		"too many readings":            {5, many, api.ErrLong},
		"minute below 0":               {5, []api.Sniff{sniff(-1, 0, 0)}, api.ErrArg},
		"minute above MaxTime":         {5, []api.Sniff{early, sniff(api.MaxTime+1, 0, 0)}, api.ErrArg},
		"sensor below 0":               {5, []api.Sniff{early, sniff(2, -1, 0)}, api.ErrArg},
		"sensor above all":             {5, []api.Sniff{early, sniff(2, 3, 0)}, api.ErrArg},
		"a far sensor":                 {5, []api.Sniff{sniff(2, math.MaxInt, 0)}, api.ErrArg},
		"not in order":                 {5, []api.Sniff{early, sniff(1, 0, 0)}, api.ErrOrder},
		"not in order, in the end":     {5, []api.Sniff{early, sniff(4, 0, 0), sniff(4, 0, 0), sniff(9, 0, 0), sniff(9, 0, 0), sniff(8, 0, 0)}, api.ErrOrder},
		"not in order, and no minute":  {5, []api.Sniff{early, sniff(-1, 0, 0)}, api.ErrArg},
		"not in order, and no sensor":  {5, []api.Sniff{early, sniff(1, 3, 0)}, api.ErrArg},
		"not in order, then no minute": {5, []api.Sniff{early, sniff(1, 0, 0), sniff(-1, 0, 0)}, api.ErrOrder},
		"no sensor, then not in order": {5, []api.Sniff{early, sniff(3, 3, 0), sniff(1, 0, 0)}, api.ErrArg},
	} {
		if m, e := alarm.Alarm(example(1, 0), c.threshold, c.l); m != 0 || e != c.e {
			t.Errorf("%s: %d, error %d; want %d", name, m, e, c.e)
		}
	}
	for name, v := range badVotings() {
		if m, e := alarm.Alarm(v, -1, many); m != 0 || e != api.ErrArg {
			t.Errorf("%s: %d, error %d", name, m, e)
		}
	}
	if m, e := alarm.Alarm(example(1, 0), 0, many[1:]); m != 0 || e != api.OK {
		t.Error("as many readings as there can be:", m, e)
	}
}

// P4.1: readings of any kind, heard once more minute by minute.
func TestAlarmModel(t *testing.T) {
	rnd := rand.New(rand.NewSource(41))
	ends := map[api.Errno]int{}
	for range 20000 {
		v := anyVoting(rnd, 4)
		threshold := rnd.Intn(5)
		var l []api.Sniff
		for minute := 0; rnd.Intn(8) > 0; minute += rnd.Intn(3) {
			l = append(l, sniff(minute, rnd.Intn(len(v.Sensors)), rnd.Intn(7)-1))
		}
		want, why := 0, api.ErrNone
		for minute := 0; len(l) > 0 && minute <= l[len(l)-1].Minute && why != api.OK; minute++ {
			last := map[int]int{}
			for _, r := range l {
				if r.Minute <= minute {
					last[r.Sensor] = r.Value
				}
			}
			yes := 0
			for _, value := range last {
				if value >= threshold {
					yes++
				}
			}
			if yes >= v.Votes {
				want, why = minute, api.OK
			}
		}
		m, e := alarm.Alarm(v, threshold, l)
		ends[e]++
		if m != want || e != why {
			t.Fatalf("Alarm(%v, %d, %v): %d, error %d; want %d, %d", v, threshold, l, m, e, want, why)
		}
	}
	if ends[api.OK] < 1000 || ends[api.ErrNone] < 1000 {
		t.Error("not all ends were seen:", ends)
	}
}

// P11: the order of readings of different sensors in a minute makes no difference.
func TestAlarmAnyOrder(t *testing.T) {
	rnd := rand.New(rand.NewSource(411))
	for range 2000 {
		v := api.Voting{Sensors: greatest().Sensors, Votes: 1 + rnd.Intn(api.MaxGasSensors)}
		var l []api.Sniff
		for minute := range 4 {
			for _, sensor := range rnd.Perm(api.MaxGasSensors)[:6] {
				l = append(l, sniff(minute, sensor, rnd.Intn(4)))
			}
		}
		want := mustAlarm(t, v, 2, l)
		for begin := 0; begin < len(l); begin += 6 {
			now := l[begin : begin+6]
			rnd.Shuffle(6, func(i, j int) { now[i], now[j] = now[j], now[i] })
		}
		if m := mustAlarm(t, v, 2, slices.Clone(l)); m != want {
			t.Fatalf("Alarm(%v, 2, %v): %d; want %d", v, l, m, want)
		}
	}
}
