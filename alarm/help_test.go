package alarm_test

import (
	"math"
	"math/bits"
	"math/rand"
	"slices"
	"testing"

	"icehall/alarm"
	"icehall/api"
)

// odd is numbers that no range of the chapter contains, or that are at the end of one.
var odd = []int{math.MinInt, -1, 0, 1, 2, 12, 13, api.MaxEvery, api.MaxEvery + 1, api.MaxMinutes, api.MaxMinutes + 1, api.MaxGas, api.MaxGas + 1, math.MaxInt}

// example returns the voting of the document's examples.
func example(votes, failed int) api.Voting {
	return api.Voting{
		Sensors: []api.Sensor{{First: 0, Every: 2, Err: 5}, {First: 1, Every: 3, Err: 4}, {First: 0, Every: 5, Err: 2}},
		Votes:   votes, Failed: failed,
	}
}

// exampleSniffs returns the readings of the document's examples.
func exampleSniffs() []api.Sniff {
	return []api.Sniff{sniff(0, 0, 60), sniff(1, 1, 49), sniff(2, 0, 40), sniff(4, 1, 50), sniff(4, 0, 50)}
}

func sniff(minute, sensor, value int) api.Sniff {
	return api.Sniff{Minute: minute, Sensor: sensor, Value: value}
}

// single returns the voting of one sensor.
func single(first, every, err int) api.Voting {
	return api.Voting{Sensors: []api.Sensor{{First: first, Every: every, Err: err}}, Votes: 1}
}

// badVotings returns votings that are not valid, by what is wrong with them.
func badVotings() map[string]api.Voting {
	bad := map[string]api.Voting{"nothing": {}}
	for name, change := range map[string]func(v *api.Voting){
		"nil sensors":            func(v *api.Voting) { v.Sensors = nil },
		"empty sensors":          func(v *api.Voting) { v.Sensors = []api.Sensor{} },
		"13 sensors":             func(v *api.Voting) { v.Sensors = slices.Repeat(v.Sensors[:1], api.MaxGasSensors+1) },
		"first below 0":          func(v *api.Voting) { v.Sensors[2].First = -1 },
		"first above MaxMinutes": func(v *api.Voting) { v.Sensors[2].First = api.MaxMinutes + 1 },
		"every 0":                func(v *api.Voting) { v.Sensors[0].Every = 0 },
		"every below 0":          func(v *api.Voting) { v.Sensors[0].Every = math.MinInt },
		"every above MaxEvery":   func(v *api.Voting) { v.Sensors[0].Every = api.MaxEvery + 1 },
		"err below 0":            func(v *api.Voting) { v.Sensors[1].Err = -1 },
		"err above MaxGas":       func(v *api.Voting) { v.Sensors[1].Err = api.MaxGas + 1 },
		"votes 0":                func(v *api.Voting) { v.Votes = 0 },
		"votes below 0":          func(v *api.Voting) { v.Votes = math.MinInt },
		"votes above sensors":    func(v *api.Voting) { v.Votes = 4 },
		"failed below 0":         func(v *api.Voting) { v.Failed = -1 },
		"failed above sensors":   func(v *api.Voting) { v.Failed = 4 },
	} {
		v := example(2, 1)
		change(&v)
		bad[name] = v
	}
	return bad
}

// greatest returns as many sensors as there can be, with all numbers at the ends of their ranges.
func greatest() api.Voting {
	s := api.Sensor{First: api.MaxMinutes, Every: api.MaxEvery, Err: api.MaxGas}
	return api.Voting{Sensors: slices.Repeat([]api.Sensor{s}, api.MaxGasSensors), Votes: api.MaxGasSensors, Failed: api.MaxGasSensors}
}

// clone returns the same voting in memory of its own.
func clone(v api.Voting) api.Voting {
	v.Sensors = slices.Clone(v.Sensors)
	return v
}

// same returns whether votings are the same.
func same(a, b api.Voting) bool {
	return slices.Equal(a.Sensors, b.Sensors) && a.Votes == b.Votes && a.Failed == b.Failed
}

// anyVoting returns so many sensors at most, with small numbers, so that many of them are alike.
func anyVoting(rnd *rand.Rand, sensors int) api.Voting {
	var v api.Voting
	for range 1 + rnd.Intn(sensors) {
		v.Sensors = append(v.Sensors, api.Sensor{First: rnd.Intn(5), Every: 1 + rnd.Intn(5), Err: rnd.Intn(4)})
	}
	n := len(v.Sensors)
	v.Votes, v.Failed = 1+rnd.Intn(n), rnd.Intn(min(n, 2)+1)
	return v
}

// reads returns whether a sensor reads in a minute.
func reads(s api.Sensor, minute int) bool {
	for m := s.First; m <= minute; m += s.Every {
		if m == minute {
			return true
		}
	}
	return false
}

// failures returns all sets of sensors, as bits, that may have failed.
func failures(v api.Voting) []uint {
	var l []uint
	for set := range uint(1) << len(v.Sensors) {
		if bits.OnesCount(set) <= v.Failed {
			l = append(l, set)
		}
	}
	return l
}

// votings returns all that the sensors can say in a minute, as bits, with this concentration, if they said this before, and those of the set have failed.
func votings(v api.Voting, threshold, minute, gas int, said, failed uint) []uint {
	all := []uint{0}
	for i, s := range v.Sensors {
		bit := uint(1) << i
		yes, no := said&bit != 0, said&bit == 0
		if reads(s, minute) {
			broken := failed&bit != 0
			yes, no = broken || gas+s.Err >= threshold, broken || gas-s.Err < threshold
		}
		var longer []uint
		for _, set := range all {
			if yes {
				longer = append(longer, set|bit)
			}
			if no {
				longer = append(longer, set)
			}
		}
		all = longer
	}
	return all
}

// followWorst returns for each minute up to the last one the greatest concentration that there can be without an alarm in it or before, of those up to top, or -1. It follows all courses and all readings of them.
func followWorst(v api.Voting, threshold, rise, last, top int) []int {
	most := slices.Repeat([]int{-1}, last+1)
	for _, failed := range failures(v) {
		// greatest is the greatest concentration with which the sensors can have said this. It may fall by any amount, so each lesser one can come next too.
		greatest := map[uint]int{0: top}
		for minute := range last + 1 {
			next := map[uint]int{}
			for said, gas := range greatest {
				if minute > 0 {
					gas = min(gas+rise, top)
				}
				for g := range gas + 1 {
					for _, set := range votings(v, threshold, minute, g, said, failed) {
						if bits.OnesCount(set) < v.Votes {
							next[set] = max(next[set], g)
							most[minute] = max(most[minute], g)
						}
					}
				}
			}
			greatest = next
		}
	}
	return most
}

// followQuiet returns whether no course up to calm, with no readings of it, comes to an alarm up to the last minute.
func followQuiet(v api.Voting, threshold, calm, last int) bool {
	for _, failed := range failures(v) {
		can := map[uint]bool{0: true}
		for minute := range last + 1 {
			next := map[uint]bool{}
			for said := range can {
				for g := range calm + 1 {
					for _, set := range votings(v, threshold, minute, g, said, failed) {
						if bits.OnesCount(set) >= v.Votes {
							return false
						}
						next[set] = true
					}
				}
			}
			can = next
		}
	}
	return true
}

// mustWorst returns how much there can be without an alarm, MaxGas if there is no bound below.
func mustWorst(t *testing.T, v api.Voting, threshold, rise, from, to int) int {
	t.Helper()
	most, minute, e := alarm.Worst(v, threshold, rise, from, to)
	if e == api.ErrNone && most == 0 && minute == 0 {
		return api.MaxGas
	}
	if e != api.OK || most < -1 || most >= api.MaxGas || minute < from || minute > to {
		t.Fatalf("Worst(%v, %d, %d, %d, %d): %d, %d, error %d", v, threshold, rise, from, to, most, minute, e)
	}
	return most
}

// mustQuiet returns whether a threshold is quiet.
func mustQuiet(t *testing.T, v api.Voting, threshold, calm int) bool {
	t.Helper()
	is, e := alarm.Quiet(v, threshold, calm)
	if e != api.OK {
		t.Fatalf("Quiet(%v, %d, %d): error %d", v, threshold, calm, e)
	}
	return is
}

// mustAlarm returns the first minute with an alarm, or one above all if there is none.
func mustAlarm(t *testing.T, v api.Voting, threshold int, l []api.Sniff) int {
	t.Helper()
	minute, e := alarm.Alarm(v, threshold, l)
	switch {
	case e == api.ErrNone && minute == 0:
		return math.MaxInt
	case e != api.OK:
		t.Fatalf("Alarm(%v, %d, %v): error %d", v, threshold, l, e)
	}
	return minute
}
