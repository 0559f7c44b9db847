package panel_test

import (
	"math/big"
	"math/rand"
	"slices"
	"testing"

	"icehall/api"
	"icehall/panel"
)

// P8.8: the seating that is returned is good, so nobody judges the own club; and no random good one is ahead of it.
func TestNoSeatingAhead(t *testing.T) {
	rnd := rand.New(rand.NewSource(7))
	good := 0
	for range 3000 {
		x := anyMeeting(rnd, api.MaxJudges, api.MaxContests)
		seating, e := panel.Seat(x)
		if n, f := panel.Check(x, seating); e == api.OK && (n != len(x.Contests) || f != api.OK) {
			t.Fatalf("%v: %v is returned, but has the error %d in the contest %d", x, seating, f, n)
		}
		for i, list := range seating {
			for _, judge := range list {
				if slices.Contains(x.Contests[i].Clubs, x.Judges[judge].Club) {
					t.Fatalf("%v: the judge %d judges the own club in %v", x, judge, seating)
				}
			}
		}
		for range 20 {
			other := anySeating(rnd, x)
			if _, f := checkBy(x, other); f != api.OK {
				continue
			}
			if good++; e != api.OK || compare(other, seating) < 0 {
				t.Fatalf("%v: %v is returned (error %d), but %v is good", x, seating, e, other)
			}
		}
	}
	if good < 3000 {
		t.Error("too few good seatings", good)
	}
}

// P8.8: with one more judge behind the others, or one contest less, there is a seating if there was one; it is not behind what it was.
func TestOneMoreOrLess(t *testing.T) {
	rnd := rand.New(rand.NewSource(8))
	seen := 0
	for range 4000 {
		x := anyMeeting(rnd, api.MaxJudges-1, api.MaxContests)
		seating, e := panel.Seat(x)
		if e != api.OK {
			continue
		}
		more := cloneMeeting(x)
		more.Judges = append(more.Judges, anyJudge(rnd, 10))
		if other, e := panel.Seat(more); e != api.OK || compare(other, seating) > 0 {
			t.Fatalf("%v has %v, but with one judge more %v, error %d", x, seating, other, e)
		}
		for i := range x.Contests {
			less := cloneMeeting(x)
			less.Contests = slices.Delete(less.Contests, i, i+1)
			rest := slices.Delete(cloneRows(seating), i, i+1)
			if other, e := panel.Seat(less); e != api.OK || compare(other, rest) > 0 {
				t.Fatalf("%v has %v, but without the contest %d %v, error %d", x, seating, i, other, e)
			}
			seen++
		}
	}
	if seen < 2000 {
		t.Error("too few contests were left out", seen)
	}
}

// P8.8: a judge who is higher by some number for all has the same bias; one who is so for the own club's skaters only has a bias that is higher by that number.
func TestHigherMarks(t *testing.T) {
	rnd := rand.New(rand.NewSource(9))
	seen := 0
	for range 3000 {
		m := anyMarks(rnd, 2+rnd.Intn(api.MaxSkaters-1), 2+rnd.Intn(api.MaxJudges-1))
		judge, by := rnd.Intn(len(m.Judges)), rnd.Intn(300)
		for _, row := range m.Marks {
			row[judge] = min(row[judge], api.MaxMark-by)
		}
		before, e := panel.Bias(m, judge)
		if e != api.OK {
			continue
		}
		all, own := cloneMarks(m), cloneMarks(m)
		for i, club := range m.Skaters {
			all.Marks[i][judge] += by
			if club == m.Judges[judge] {
				own.Marks[i][judge] += by
			}
		}
		if b := mustBias(t, all, judge); b != before {
			t.Fatalf("%v: with %d more for all the judge %d has %v, not %v", m, by, judge, b, before)
		}
		want := new(big.Rat).Add(rat(before), rat(api.Ratio{Num: by, Den: 1}))
		if b := mustBias(t, own, judge); !isBias(b, want) {
			t.Fatalf("%v: with %d more for the own club the judge %d has %v, not %v", m, by, judge, b, want)
		}
		seen++
	}
	if seen < 1000 {
		t.Error("too few biases", seen)
	}
}

// P8.8, P11: the order of skaters makes no difference to a bias, and that of the judges none but to the order of the results.
func TestOrderOfMarks(t *testing.T) {
	rnd := rand.New(rand.NewSource(10))
	for range 1500 {
		m := anyMarks(rnd, rnd.Intn(api.MaxSkaters+1), 1+rnd.Intn(api.MaxJudges))
		skaters, seats := rnd.Perm(len(m.Skaters)), rnd.Perm(len(m.Judges))
		var other, moved api.Marks
		other.Judges = m.Judges
		for _, i := range skaters {
			other.Skaters = append(other.Skaters, m.Skaters[i])
			other.Marks = append(other.Marks, m.Marks[i])
		}
		moved.Skaters = m.Skaters
		for _, judge := range seats {
			moved.Judges = append(moved.Judges, m.Judges[judge])
		}
		for _, row := range m.Marks {
			var l []int
			for _, judge := range seats {
				l = append(l, row[judge])
			}
			moved.Marks = append(moved.Marks, l)
		}
		for i, judge := range seats {
			b, e := panel.Bias(m, judge)
			if c, f := panel.Bias(other, judge); b != c || e != f {
				t.Fatalf("%v has %v, error %d, but %v has %v, error %d", m, b, e, other, c, f)
			}
			if c, f := panel.Bias(moved, i); b != c || e != f {
				t.Fatalf("%v has %v, error %d, but %v has %v, error %d", m, b, e, moved, c, f)
			}
		}
	}
}

// P8.8: a judge whose mark is always the mean of the others has no bias.
func TestMeanOfTheOthers(t *testing.T) {
	rnd := rand.New(rand.NewSource(11))
	seen := 0
	for range 2000 {
		m := anyMarks(rnd, 2+rnd.Intn(10), 2+rnd.Intn(api.MaxJudges-1))
		judge, n := rnd.Intn(len(m.Judges)), len(m.Judges)-1
		for _, row := range m.Marks {
			for i := range row {
				row[i] = row[i] / n * n
			}
			row[judge] = 0
			sum := 0
			for _, mark := range row {
				sum += mark
			}
			row[judge] = sum / n
		}
		b, e := panel.Bias(m, judge)
		if e == api.OK && b != (api.Ratio{Num: 0, Den: 1}) {
			t.Fatalf("%v: the judge %d has %v", m, judge, b)
		}
		if l, f := panel.Biased(m, 0); f != api.OK || slices.Contains(l, judge) {
			t.Fatalf("%v: the judge %d is biased: %v", m, judge, l)
		}
		if e == api.OK {
			seen++
		}
	}
	if seen < 500 {
		t.Error("too few judges with skaters of their own", seen)
	}
}

// P8.8: with two votes or more, no vote alone changes a call: behind a change there are two votes, and one vote among those for the call changes nothing.
func TestOneVoteAlone(t *testing.T) {
	rnd := rand.New(rand.NewSource(12))
	changed := 0
	for range 10000 {
		votes, call := anyVotes(rnd), rnd.Intn(api.MaxCall+1)
		if len(votes) < 2 {
			continue
		}
		if now, upheld := mustReview(t, call, votes); upheld {
			same := 0
			for _, v := range votes {
				if v == now {
					same++
				}
			}
			if same < 2 {
				t.Fatalf("%d, %v: %d by %d votes", call, votes, now, same)
			}
			changed++
		}
		for i := range votes {
			votes[i] = call
		}
		votes[rnd.Intn(len(votes))] = rnd.Intn(api.MaxCall + 1)
		if now, upheld := mustReview(t, call, votes); now != call || upheld {
			t.Fatalf("%d, %v: %d, %v", call, votes, now, upheld)
		}
	}
	if changed < 1000 {
		t.Error("too few calls were changed", changed)
	}
}

// P8.8, P11: the order of votes, and of appeals, makes no difference to the calls, nor to what is kept.
func TestOrderOfAppeals(t *testing.T) {
	rnd := rand.New(rand.NewSource(13))
	for range 2000 {
		calls, l := anyAppeals(rnd)
		now, kept := mustAppeal(t, calls, l, 7)
		other := cloneAppeals(l)
		rnd.Shuffle(len(other), func(i, k int) { other[i], other[k] = other[k], other[i] })
		for _, a := range other {
			n, upheld := mustReview(t, calls[a.Element], a.Votes)
			rnd.Shuffle(len(a.Votes), func(i, k int) { a.Votes[i], a.Votes[k] = a.Votes[k], a.Votes[i] })
			if m, up := mustReview(t, calls[a.Element], a.Votes); n != m || upheld != up {
				t.Fatalf("%d, %v: %d, %v, not %d, %v", calls[a.Element], a.Votes, m, up, n, upheld)
			}
		}
		if after, left := mustAppeal(t, calls, other, 7); !slices.Equal(after, now) || left != kept {
			t.Fatalf("%v, %v: %v, %d, but with %v %v, %d", calls, l, now, kept, other, after, left)
		}
	}
}

// P11: the same call returns the same, whatever was called before.
func TestAgain(t *testing.T) {
	rnd := rand.New(rand.NewSource(14))
	for range 50 {
		panel.Seat(anyMeeting(rnd, api.MaxJudges, api.MaxContests))
		panel.Biased(anyMarks(rnd, 9, 4), 3)
		panel.Review(1, anyVotes(rnd))
		if seating, e := panel.Seat(meeting()); e != api.OK || compare(seating, [][]int{{0, 2}, {2, 3}}) != 0 {
			t.Error(seating, e)
		}
		if b := mustBias(t, marks(), 0); b != (api.Ratio{Num: 120, Den: 1}) {
			t.Error(b)
		}
		if now, upheld := mustReview(t, 3, []int{4, 4, 2}); now != 4 || !upheld {
			t.Error(now, upheld)
		}
	}
}
