package score_test

import (
	"math/rand"
	"slices"
	"testing"

	"icehall/api"
	"icehall/score"
)

// P7.6, P11: the order in which calls and parts were entered makes no difference to the score, and each call keeps its value.
func TestOrderOfEntry(t *testing.T) {
	rnd := rand.New(rand.NewSource(76))
	for range 5000 {
		r := anyRules(rnd)
		s := anySkating(rnd, r, 1+rnd.Intn(api.MaxPanel), api.MaxCalled, api.MaxParts)
		p, values := mustScore(t, r, s), mustValues(t, r, s)
		other := clone(s)
		rnd.Shuffle(len(other.Parts), func(i, j int) { other.Parts[i], other.Parts[j] = other.Parts[j], other.Parts[i] })
		order := rnd.Perm(len(s.Calls))
		var want []int
		for i, k := range order {
			other.Calls[i] = s.Calls[k]
			want = append(want, values[k])
		}
		if q := mustScore(t, r, other); q != p {
			t.Fatalf("%v: %v has %v, but %v has %v", r, s, p, other, q)
		}
		if l := mustValues(t, r, other); !slices.Equal(l, want) {
			t.Fatalf("%v: %v has %v, but %v has %v", r, s, values, other, l)
		}
	}
}

// P7.6, P11: the order of the judges makes no difference to the scores, to what each one can do, and to who is open; that of the skaters makes none but to the order of the results.
func TestOrderOfJudges(t *testing.T) {
	rnd := rand.New(rand.NewSource(77))
	for range 1000 {
		r, judges := anyRules(rnd), 1+rnd.Intn(api.MaxPanel)
		l := anyContest(rnd, r, judges, 6, 4, 3)
		if !hasMarks(l) {
			continue
		}
		seats, skaters := rnd.Perm(judges), rnd.Perm(len(l))
		other := make([]api.Skating, len(l))
		for i, k := range skaters {
			other[i] = reseated(l[k], seats)
			if p, q := mustScore(t, r, l[k]), mustScore(t, r, other[i]); p != q {
				t.Fatalf("%v: %v has %v, but %v has %v", r, l[k], p, other[i], q)
			}
		}
		for i, judge := range seats {
			spans, now := mustSwing(t, r, l, judge), mustSwing(t, r, other, i)
			for i, k := range skaters {
				if now[i] != spans[k] {
					t.Fatalf("%v, judge %d: %v has %v, but %v has %v", r, judge, l, spans, other, now)
				}
			}
		}
		first := 1 + rnd.Intn(len(l))
		var want []int
		for i, k := range skaters {
			if slices.Contains(mustOpen(t, r, l, first), k) {
				want = append(want, i)
			}
		}
		if open := mustOpen(t, r, other, first); !slices.Equal(open, want) {
			t.Fatalf("%v, first %d: %v, not %v, are open in %v", r, first, open, want, other)
		}
	}
}

// reseated returns a skating with the marks of the judges in another order.
func reseated(s api.Skating, seats []int) api.Skating {
	move := func(marks []int) []int {
		l := make([]int, len(marks))
		for i, judge := range seats {
			l[i] = marks[judge]
		}
		return l
	}
	s = clone(s)
	for i, c := range s.Calls {
		s.Calls[i].Marks = move(c.Marks)
	}
	for i, marks := range s.Parts {
		s.Parts[i] = move(marks)
	}
	return s
}

// P7.7: whatever a single judge gives, all places are within the swing, and nobody but the open ones comes among the first or leaves them.
func TestWhateverOneJudgeGives(t *testing.T) {
	rnd := rand.New(rand.NewSource(78))
	moved := 0
	for range 1500 {
		r, judges := anyRules(rnd), 1+rnd.Intn(api.MaxPanel)
		l := anyContest(rnd, r, judges, 12, 5, 3)
		if !hasMarks(l) {
			continue
		}
		places, judge := placesOf(t, r, l), rnd.Intn(judges)
		spans, other := mustSwing(t, r, l, judge), cloneAll(l)
		for range 8 {
			grades, quarters := marksOf(other, judge)
			for _, m := range grades {
				*m = rnd.Intn(2*api.MaxGrade+1) - api.MaxGrade
			}
			for _, m := range quarters {
				*m = rnd.Intn(api.MaxQuarters + 1)
			}
			for i, place := range placesOf(t, r, other) {
				if place < spans[i].Lo || place > spans[i].Hi || places[i] < spans[i].Lo || places[i] > spans[i].Hi {
					t.Fatalf("%v, judge %d: the skater %d of %v has the place %d, beyond %v", r, judge, i, other, place, spans[i])
				}
				first := min(place, places[i])
				if place != places[i] && !slices.Contains(mustOpen(t, r, l, first), i) {
					t.Fatalf("%v, judge %d: the skater %d of %v, not open for %d, has the place %d, not %d", r, judge, i, other, first, place, places[i])
				}
				if place != places[i] {
					moved++
				}
			}
		}
	}
	if moved < 1000 {
		t.Error("too few skaters were moved", moved)
	}
}

// P7.7: each end of a swing can be, with the highest marks for one and the lowest ones for all others, or the other way.
func TestEachEndCanBe(t *testing.T) {
	rnd := rand.New(rand.NewSource(79))
	far := 0
	for range 250 {
		r, judges := anyRules(rnd), 1+rnd.Intn(api.MaxPanel)
		l := anyContest(rnd, r, judges, api.MaxSkatings, api.MaxCalled, api.MaxParts)
		if !hasMarks(l) {
			continue
		}
		judge := rnd.Intn(judges)
		for i, span := range mustSwing(t, r, l, judge) {
			if best := ends(t, r, l, judge, i, true); best != span.Lo {
				t.Fatalf("%v, judge %d: the skater %d of %v can have the place %d, not %d", r, judge, i, l, best, span.Lo)
			}
			if worst := ends(t, r, l, judge, i, false); worst != span.Hi {
				t.Fatalf("%v, judge %d: the skater %d of %v can have the place %d, not %d", r, judge, i, l, worst, span.Hi)
			}
			if span.Hi-span.Lo > 5 {
				far++
			}
		}
	}
	if far < 1000 {
		t.Error("too few far swings", far)
	}
}

// ends returns the place of a skater to whom a judge gives the highest or the lowest marks, and to all others the opposite.
func ends(t *testing.T, r api.Rules, l []api.Skating, judge, skater int, high bool) int {
	t.Helper()
	l = cloneAll(l)
	for i := range l {
		grade, quarter := -api.MaxGrade, 0
		if (i == skater) == high {
			grade, quarter = api.MaxGrade, api.MaxQuarters
		}
		grades, quarters := marksOf(l[i:i+1], judge)
		for _, m := range grades {
			*m = grade
		}
		for _, m := range quarters {
			*m = quarter
		}
	}
	return placesOf(t, r, l)[skater]
}

// P7.7: with five judges or more, one judge alone cannot make a grade greater than the greatest one of the others, nor less than the least; with four one can.
func TestOneJudgeAmongFive(t *testing.T) {
	r := api.Rules{Bases: []int{1000}, Most: 1}
	rnd := rand.New(rand.NewSource(80))
	for range 2000 {
		judges := 5 + rnd.Intn(api.MaxPanel-4)
		marks := anyMarks(rnd, judges, -api.MaxGrade, api.MaxGrade)
		judge := rnd.Intn(judges)
		others := slices.Delete(slices.Clone(marks), judge, judge+1)
		least, most := 1000+100*slices.Min(others), 1000+100*slices.Max(others)
		for m := -api.MaxGrade; m <= api.MaxGrade; m++ {
			marks[judge] = m
			if v := mustValues(t, r, single(marks...))[0]; v < least || v > most {
				t.Fatalf("%v: %d is not from %d to %d", marks, v, least, most)
			}
		}
	}
	if v := mustValues(t, r, single(0, 0, 0, 4)); v[0] != 1100 {
		t.Error("four judges:", v)
	}
}

// P7.8: with a higher mark no score is worse, and nothing of it less.
func TestHigherMark(t *testing.T) {
	rnd := rand.New(rand.NewSource(81))
	more := 0
	for range 5000 {
		r, judges := anyRules(rnd), 1+rnd.Intn(api.MaxPanel)
		s := anySkating(rnd, r, judges, 6, 3)
		p := mustScore(t, r, s)
		grades, quarters := marksOf([]api.Skating{s}, rnd.Intn(judges))
		for _, m := range slices.Concat(grades, quarters) {
			limit := api.MaxQuarters
			if slices.Contains(grades, m) {
				limit = api.MaxGrade
			}
			if *m == limit {
				continue
			}
			*m += 1 + rnd.Intn(limit-*m)
			q := mustScore(t, r, s)
			if isBetter(p, q) || q.Elements < p.Elements || q.Parts < p.Parts || q.Off != p.Off {
				t.Fatalf("%v: with a higher mark %v has %v, not %v", r, s, q, p)
			}
			if places := mustRank(t, []api.Score{p, q}); places[1] != 1 {
				t.Fatalf("%v is ranked %d behind %v", q, places[1], p)
			}
			if isBetter(q, p) {
				more++
			}
			p = q
		}
	}
	if more < 2000 {
		t.Error("too few scores are better", more)
	}
}

// P7.8: with one more fall the Total is no more, and all else but Off is the same.
func TestOneMoreFall(t *testing.T) {
	rnd := rand.New(rand.NewSource(82))
	for range 5000 {
		r := anyRules(rnd)
		s := anySkating(rnd, r, 1+rnd.Intn(api.MaxPanel), api.MaxCalled, 3)
		for i := range s.Calls {
			if s.Calls[i].Fall {
				continue
			}
			p := mustScore(t, r, s)
			s.Calls[i].Fall = true
			q := mustScore(t, r, s)
			if q.Total > p.Total || q.Off <= p.Off || q.Elements != p.Elements || q.Parts != p.Parts {
				t.Fatalf("%v: with one more fall %v has %v, not %v", r, s, q, p)
			}
		}
	}
}

// P7.6, P11: the same call returns the same, whatever was called before.
func TestAgain(t *testing.T) {
	rnd := rand.New(rand.NewSource(83))
	for range 50 {
		other := anyRules(rnd)
		score.Open(other, anyContest(rnd, other, 3, 5, 3, 2), 1)
		r, s := example()
		if p := mustScore(t, r, s); p != (api.Score{Elements: 1606, Parts: 3173, Off: 300, Total: 4479}) {
			t.Error(p)
		}
		if l := mustOpen(t, hundred(), agreed(4, 0, 2, 5), 1); !slices.Equal(l, []int{1, 2}) {
			t.Error(l)
		}
	}
}
