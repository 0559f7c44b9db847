package alarm_test

import (
	"math/rand"
	"testing"

	"icehall/alarm"
	"icehall/api"
)

// P4.3: the example of the document, and what is seen at once.
func TestQuiet(t *testing.T) {
	top := api.MaxGas
	for _, c := range []struct {
		name            string
		v               api.Voting
		threshold, calm int
		want            bool
	}{
		{"the example", example(2, 1), 50, 44, true},
		{"the example, a bit less calm", example(2, 1), 50, 45, false},
		{"none has failed", example(2, 0), 50, 45, true},
		{"none has failed, the second one", example(2, 0), 50, 46, false},
		{"the third one", example(3, 0), 50, 47, true},
		{"the third one, a bit less calm", example(3, 0), 50, 48, false},
		{"as many have failed as there are votes", example(2, 2), top, 0, false},
		{"more have failed", example(2, 3), top, 0, false},
		{"all votes, all but one have failed", example(3, 2), 6, 0, true},
		{"all votes, all but one have failed, less", example(3, 2), 5, 0, false},
		{"nothing, and exact", single(0, 1, 0), 1, 0, true},
		{"the threshold is 0", single(0, 1, 0), 0, 0, false},
		{"the threshold is 0, not exact", single(0, 1, 9), 0, 0, false},
		{"one that reads late", single(api.MaxMinutes, api.MaxEvery, 3), 50, 47, false},
		{"MaxGas", single(0, 1, 0), top, top, false},
		{"below MaxGas", single(0, 1, 0), top, top - 1, true},
		{"nothing is sure", single(0, 1, top), top, 0, false},
		{"little is sure", single(0, 1, top-1), top, 0, true},
	} {
		if is := mustQuiet(t, c.v, c.threshold, c.calm); is != c.want {
			t.Errorf("%s: %v", c.name, is)
		}
	}
}

// P4.3: the errors, in their order.
func TestQuietErrors(t *testing.T) {
	for _, c := range [][2]int{{-1, 5}, {api.MaxGas + 1, 5}, {50, -1}, {50, api.MaxGas + 1}} {
		if is, e := alarm.Quiet(example(2, 1), c[0], c[1]); is || e != api.ErrRange {
			t.Error(c, is, e)
		}
	}
	for name, v := range badVotings() {
		for _, threshold := range []int{-1, 50} {
			if is, e := alarm.Quiet(v, threshold, 5); is || e != api.ErrArg {
				t.Errorf("%s: %v, error %d", name, is, e)
			}
		}
	}
}

// P4.3: all courses up to calm, all readings and all failures are followed.
func TestQuietOfAll(t *testing.T) {
	rnd := rand.New(rand.NewSource(43))
	quiet := 0
	for range 4000 {
		v := anyVoting(rnd, 3)
		threshold, calm := rnd.Intn(9), rnd.Intn(5)
		// By minute 4 all of the sensors have read.
		want := followQuiet(v, threshold, calm, 9)
		if want {
			quiet++
		}
		if is := mustQuiet(t, v, threshold, calm); is != want {
			t.Fatalf("Quiet(%v, %d, %d): %v", v, threshold, calm, is)
		}
	}
	if quiet < 500 || quiet > 3500 {
		t.Error("it was quiet", quiet, "times")
	}
}
