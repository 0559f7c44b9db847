package hours_test

import (
	"math/rand"
	"slices"
	"testing"

	"icehall/api"
	"icehall/hours"
)

// P6, P6.6: no good plan is fairer than the one that is returned, and it is good itself.
func TestNoPlanIsFairer(t *testing.T) {
	rnd := rand.New(rand.NewSource(67))
	for range 40 {
		x := anyTimetable(rnd, api.MaxIceHours, api.MaxGroups)
		p := mustFairest(t, x)
		for range 200 {
			q := goodPlan(rnd, x)
			if n, e := hours.Compare(x, q, p); n > 0 || e != api.OK {
				t.Fatalf("%v: %v is fairer than %v; error %d", x, q, p, e)
			}
		}
	}
}

// gain returns how what the groups have by the fairest plan of one timetable, sorted, compares with that of another one.
func gain(t *testing.T, x, y api.Timetable) int {
	t.Helper()
	a, b := mustHave(t, x, mustFairest(t, x)), mustHave(t, y, mustFairest(t, y))
	return slices.Compare(sorted(a), sorted(b))
}

// P6.6: with an hour that is cancelled the fairest plan is no fairer.
func TestCancelledHour(t *testing.T) {
	rnd := rand.New(rand.NewSource(68))
	less, same := 0, 0
	for range 500 {
		x := anyTimetable(rnd, 8, 4)
		for i := range x.Hours {
			y := clone(x)
			y.Hours = slices.Delete(y.Hours, i, i+1)
			switch n := gain(t, y, x); {
			case n > 0:
				t.Fatalf("%v: without the hour %d the fairest plan is fairer", x, i)
			case n < 0:
				less++
			default:
				same++
			}
		}
	}
	if less < 300 || same < 300 {
		t.Error("too few", less, same)
	}
}

// P6.6: with a group that can come on more days, or with a shorter resurfacing, the fairest plan is no less fair.
func TestMoreDays(t *testing.T) {
	rnd := rand.New(rand.NewSource(69))
	more, quick := 0, 0
	for range 1500 {
		x := anyTimetable(rnd, 8, 4)
		for i := range x.Groups {
			y := clone(x)
			y.Groups[i].Days |= rnd.Intn(128)
			if n := gain(t, y, x); n < 0 {
				t.Fatalf("%v: if group %d has the days %d the fairest plan is less fair", x, i, y.Groups[i].Days)
			} else if n > 0 {
				more++
			}
		}
		if x.Resurface > 0 {
			y := clone(x)
			y.Resurface = rnd.Intn(x.Resurface)
			if n := gain(t, y, x); n < 0 {
				t.Fatalf("%v: with %d minutes to resurface the fairest plan is less fair", x, y.Resurface)
			} else if n > 0 {
				quick++
			}
		}
	}
	if more < 100 || quick < 100 {
		t.Error("too few", more, quick)
	}
}

// P6.6, P11: the order of the groups makes no difference to what they have by the fairest plan, sorted.
func TestOrderOfGroups(t *testing.T) {
	rnd := rand.New(rand.NewSource(70))
	for range 500 {
		x := anyTimetable(rnd, 10, 5)
		y := clone(x)
		rnd.Shuffle(len(y.Groups), func(i, j int) { y.Groups[i], y.Groups[j] = y.Groups[j], y.Groups[i] })
		if gain(t, x, y) != 0 {
			t.Fatalf("%v has not what %v has", x, y)
		}
	}
}

// P6.6: if all groups have as much credit more, the fairest plan is the same; if one alone has more, it may be another one.
func TestCreditOfAll(t *testing.T) {
	rnd := rand.New(rand.NewSource(71))
	other := 0
	for range 500 {
		x := anyTimetable(rnd, 10, 5)
		y, z, credit := clone(x), clone(x), rnd.Intn(api.MaxCredit-1)
		for i := range y.Groups {
			y.Groups[i].Credit += credit
		}
		p := mustFairest(t, x)
		if q := mustFairest(t, y); !slices.Equal(p, q) {
			t.Fatalf("%v: the fairest plan is %v, with %d more of all it is %v", x, p, credit, q)
		}
		if len(z.Groups) > 1 {
			z.Groups[0].Credit += credit
			if !slices.Equal(p, mustFairest(t, z)) {
				other++
			}
		}
	}
	if other < 100 {
		t.Error("credit makes a difference too seldom", other)
	}
}

// P6.6: if some group alone hinders, it is named alone.
func TestAlone(t *testing.T) {
	rnd := rand.New(rand.NewSource(72))
	alone := 0
	for range 1000 {
		x := anyTimetable(rnd, 8, 5)
		least := anyLeast(rnd, x, 4)
		want := []int{}
		for i := range x.Groups {
			// Alone a group has all the hours that it may have, up to its Most.
			plan := make([]int, len(x.Hours))
			for n := range plan {
				if plan[n] = i; wrong(x, plan, n) != api.OK {
					plan[n] = api.Free
				}
			}
			if hasBy(withoutCredit(x), plan)[i] < least[i] {
				want = append(want, i)
				break
			}
		}
		l := mustHinder(t, x, least)
		if len(want) == 1 && !slices.Equal(l, want) || len(want) == 0 && len(l) == 1 {
			t.Fatalf("Hinders(%v, %v) = %v, but %v", x, least, l, want)
		}
		alone += len(want)
	}
	if alone < 200 || alone > 900 {
		t.Error(alone)
	}
}

// P6.4, P6.6: what groups are given by a good plan they can have; what hinders does so with greater needs, and with a longer resurfacing.
func TestHindersMore(t *testing.T) {
	rnd := rand.New(rand.NewSource(73))
	for range 1000 {
		x := anyTimetable(rnd, 10, 5)
		if l := mustHinder(t, x, hasBy(withoutCredit(x), goodPlan(rnd, x))); l != nil {
			t.Fatalf("%v: %v hinder a good plan", x, l)
		}
		least := anyLeast(rnd, x, 4)
		l, more := mustHinder(t, x, least), slices.Clone(least)
		for i := range more {
			more[i] += rnd.Intn(2)
		}
		y := clone(x)
		y.Resurface++
		for _, k := range [][]int{mustHinder(t, x, more), mustHinder(t, y, least)} {
			if l != nil && (k == nil || len(k) > len(l)) {
				t.Fatalf("%v: with %v %v hinder, with more only %v", x, least, l, k)
			}
		}
	}
}
