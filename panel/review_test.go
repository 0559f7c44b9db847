package panel_test

import (
	"math"
	"math/rand"
	"testing"

	"icehall/api"
	"icehall/panel"
)

// P8.5: the examples of the document, and other votes.
func TestReview(t *testing.T) {
	for name, c := range map[string]struct {
		call   int
		votes  []int
		now    int
		upheld bool
	}{
		"two of three":            {3, []int{4, 4, 2}, 4, true},
		"two of three, later":     {3, []int{2, 4, 4}, 4, true},
		"two of four":             {3, []int{4, 5, 4, 5}, 3, false},
		"three of four":           {3, []int{4, 5, 4, 4}, 4, true},
		"two of three: the call":  {3, []int{3, 3, 1}, 3, false},
		"all of them: the call":   {3, []int{3, 3}, 3, false},
		"one vote":                {3, []int{0}, 0, true},
		"one vote: the call":      {3, []int{3}, 3, false},
		"one of two":              {3, []int{3, 4}, 3, false},
		"two of two":              {0, []int{100, 100}, 100, true},
		"four of nine":            {3, []int{1, 1, 1, 1, 3, 2, 2, 4, 4}, 3, false},
		"five of nine":            {3, []int{1, 1, 1, 1, 3, 1, 2, 4, 4}, 1, true},
		"four of eight":           {3, []int{1, 1, 1, 1, 2, 2, 2, 2}, 3, false},
		"the most, but not half":  {3, []int{1, 1, 2, 4, 5}, 3, false},
		"the lowest and greatest": {api.MaxCall, []int{0, 0, 100}, 0, true},
	} {
		if now, upheld, e := panel.Review(c.call, c.votes); now != c.now || upheld != c.upheld || e != api.OK {
			t.Errorf("%s: %d, %v, error %d", name, now, upheld, e)
		}
	}
}

// P8.5: a call and votes that are not valid are reported.
func TestReviewNotValid(t *testing.T) {
	for name, votes := range badVotes() {
		if now, upheld, e := panel.Review(3, votes); now != 0 || upheld || e != api.ErrArg {
			t.Errorf("%s: %d, %v, error %d", name, now, upheld, e)
		}
	}
	for _, call := range []int{math.MinInt, -1, api.MaxCall + 1, math.MaxInt} {
		if now, upheld, e := panel.Review(call, []int{3, 3}); now != 0 || upheld || e != api.ErrArg {
			t.Errorf("call %d: %d, %v, error %d", call, now, upheld, e)
		}
	}
}

// P8.5: random votes change a call as the words of the chapter say.
func TestReviewByWords(t *testing.T) {
	rnd := rand.New(rand.NewSource(5))
	seen := map[bool]int{}
	for range 20000 {
		votes := anyVotes(rnd)
		call := votes[0]
		if rnd.Intn(3) > 0 {
			call = rnd.Intn(api.MaxCall + 1)
		}
		now, upheld := mustReview(t, call, votes)
		if want, up := reviewBy(call, votes); now != want || upheld != up {
			t.Fatalf("%d, %v: %d, %v, not %d, %v", call, votes, now, upheld, want, up)
		}
		seen[upheld]++
	}
	if seen[true] < 3000 || seen[false] < 3000 {
		t.Error("too few calls that are changed, or are not", seen)
	}
}
