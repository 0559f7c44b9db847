package ice_test

import (
	"math"
	"math/rand"
	"slices"
	"testing"

	"icehall/api"
	"icehall/ice"
)

// keepsCase is a call of Keeps and its results.
type keepsCase struct {
	name              string
	rink              []api.Zone
	day               []api.IceEvent
	days, least, most int
	bad, zone         int
	e                 api.Errno
}

func checkKeeps(t *testing.T, cases []keepsCase) {
	t.Helper()
	for _, c := range cases {
		bad, zone, e := ice.Keeps(c.rink, c.day, c.days, c.least, c.most)
		if bad != c.bad || zone != c.zone || e != c.e {
			t.Errorf("%s: %d, %d, %d; want %d, %d, %d", c.name, bad, zone, e, c.bad, c.zone, c.e)
		}
	}
}

// exampleDay returns the day of the document's example: each day a zone's ice may get 20 thinner, or 20 thicker.
func exampleDay() []api.IceEvent {
	return []api.IceEvent{{Kind: api.Skate, To: 1, Amount: span(20, 50)}, {Kind: api.Flood, To: 1, Amount: span(30, 40)}}
}

// P1.4: the first day behind which the ice does not keep.
func TestKeeps(t *testing.T) {
	r, day := example(), exampleDay()
	dip := []api.IceEvent{{Kind: api.Plane, Amount: span(2900, 2900)}, {Kind: api.Flood, Amount: span(2900, 2900)}}
	slow := []api.IceEvent{{Kind: api.Plane, Amount: span(0, 1)}}
	one := []api.Zone{{Ice: span(100, 100)}}
	checkKeeps(t, []keepsCase{
		{"the document's example, 9 days", r, day, 9, 2750, 3300, 2, 1, api.OK},
		{"the document's example, 2 days", r, day, 2, 2750, 3300, 0, 0, api.ErrNone},
		{"3 days", r, day, 3, 2750, 3300, 2, 1, api.OK},
		{"too thick", r, day, 9, 2700, 3259, 2, 0, api.OK},
		{"just not too thick", r, day, 3, 2740, 3260, 0, 0, api.ErrNone},
		{"just too thin", r, day, 3, 2741, 3260, 2, 1, api.OK},
		{"both zones on one day", r, day, 9, 3000, 3200, 0, 0, api.OK},
		{"the first zone keeps longer", r, day, 9, 2790, 3260, 0, 1, api.OK},
		{"only what is behind the day's last event counts", r, dip, 100, 2800, 3200, 0, 0, api.ErrNone},
		{"the ice before the first day does not count", r, []api.IceEvent{{Amount: span(100, 100)}, {From: 1, To: 1, Amount: span(300, 300)}}, 1, 3100, 3300, 0, 0, api.ErrNone},
		{"0 days", r, day, 0, 3000, 3000, 0, 0, api.ErrNone},
		{"0 days of a bad event", r, []api.IceEvent{{Kind: 9}}, 0, 0, 9, 0, 0, api.ErrNone},
		{"0 days of too many events", r, make([]api.IceEvent, 257), 0, 0, 9, 0, 0, api.ErrNone},
		{"days without events", r, nil, 100, 2800, 3200, 0, 0, api.ErrNone},
		{"a day without events", r, nil, 100, 2801, 3200, 0, 1, api.OK},
		{"100 days", one, slow, 100, 0, 100, 0, 0, api.ErrNone},
		{"just 100 days", one, slow, 100, 1, 100, 99, 0, api.OK},
		{"99 days", one, slow, 99, 1, 100, 0, 0, api.ErrNone},
		{"the whole range", one, slow, 100, 0, api.MaxIce, 0, 0, api.ErrNone},
		{"least is most", one, nil, 100, 100, 100, 0, 0, api.ErrNone},
	})
}

// P1.4: the error of Play, if the days ahead of it keep.
func TestKeepsPlayErrors(t *testing.T) {
	r := example()
	full := []api.IceEvent{{Amount: span(0, 9000)}}
	half := []api.IceEvent{{Amount: span(0, 6000)}}
	hole := []api.IceEvent{{Kind: api.Plane, Amount: span(100, 100)}, {Kind: api.Drill, Amount: span(2950, 9000)}}
	checkKeeps(t, []keepsCase{
		{"too much on day 1", r, full, 9, 0, api.MaxIce, 0, 0, api.ErrLimit},
		{"too much on day 1, within 2 days", r, full, 2, 0, api.MaxIce, 0, 0, api.ErrLimit},
		{"too much on day 1, within 1 day", r, full, 1, 0, api.MaxIce, 0, 0, api.ErrNone},
		{"day 0 does not keep", r, full, 9, 0, 12199, 0, 0, api.OK},
		{"day 0 just keeps", r, full, 9, 0, 12200, 0, 0, api.ErrLimit},
		{"a hole that cannot be on day 2", r, hole, 9, 2000, 3300, 0, 0, api.ErrState},
		{"a hole that cannot be behind 2 days", r, hole, 2, 2000, 3300, 0, 0, api.ErrNone},
		{"day 0 does not keep, and there is no such hole on day 2", r, hole, 9, 2800, 3099, 0, 0, api.OK},
		{"day 1 does not keep, and it is too much on day 2", r, half, 9, 0, 15199, 1, 0, api.OK},
		{"day 1 just keeps", r, half, 9, 0, 15200, 0, 0, api.ErrLimit},
		{"a bad event", r, []api.IceEvent{{Kind: 9}}, 1, 0, 9, 0, 0, api.ErrArg},
		{"an event that falls", r, []api.IceEvent{{Amount: span(2, 1)}}, 1, 0, 9, 0, 0, api.ErrArg},
		{"257 events", r, make([]api.IceEvent, 257), 1, 0, 9, 0, 0, api.ErrLong},
		{"256 events", r, make([]api.IceEvent, 256), 100, 2800, 3200, 0, 0, api.ErrNone},
	})
}

// P1.4 and R1: ErrArg of the rink, then ErrRange, then the days.
func TestKeepsArguments(t *testing.T) {
	wrong := []api.IceEvent{{Kind: 9}}
	for _, c := range [][3]int{
		{-1, 0, 9}, {101, 0, 9}, {math.MinInt, 0, 9}, {math.MaxInt, 0, 9},
		{5, -1, 9}, {5, 10, 9}, {5, math.MinInt, 9}, {5, math.MaxInt, 9},
		{5, 0, api.MaxIce + 1}, {5, 0, math.MaxInt}, {5, 0, -1}, {5, math.MinInt, math.MinInt}, {0, 10, 9},
	} {
		checkKeeps(t, []keepsCase{
			{"a range", example(), exampleDay(), c[0], c[1], c[2], 0, 0, api.ErrRange},
			{"a range, and a bad day", example(), wrong, c[0], c[1], c[2], 0, 0, api.ErrRange},
		})
		for name, r := range badRinks() {
			checkKeeps(t, []keepsCase{{name, r, wrong, c[0], c[1], c[2], 0, 0, api.ErrArg}})
		}
	}
	for name, r := range badRinks() {
		checkKeeps(t, []keepsCase{{name, r, exampleDay(), 0, 0, 9, 0, 0, api.ErrArg}})
	}
}

// P1.4: days that are played one by one tell the same.
func TestKeepsByDays(t *testing.T) {
	rnd := rand.New(rand.NewSource(4))
	for range 2000 {
		r := anyRink(rnd, 60)
		day := anyEvents(rnd, len(r), 12)
		days, bounds := rnd.Intn(8), anySpan(rnd, 0, 100, 100)
		want := keepsCase{e: api.ErrNone}
		now := r
		for d := 0; d < days && want.e == api.ErrNone; d++ {
			now, _ = mustPlay(t, now, day)
			z := slices.IndexFunc(now, func(z api.Zone) bool { return z.Ice.Lo < bounds.Lo || z.Ice.Hi > bounds.Hi })
			if z >= 0 {
				want = keepsCase{bad: d, zone: z, e: api.OK}
			}
		}
		bad, zone, e := ice.Keeps(r, day, days, bounds.Lo, bounds.Hi)
		if bad != want.bad || zone != want.zone || e != want.e {
			t.Fatal(r, day, days, bounds, bad, zone, e, want)
		}
	}
}

// P1.8: until the day that Keeps tells nothing leaves the bounds, whatever happens; on that day something can.
func TestKeepsTrue(t *testing.T) {
	rnd := rand.New(rand.NewSource(8))
	low := func(s api.Span) int { return s.Lo }
	high := func(s api.Span) int { return s.Hi }
	told := 0
	for range 3000 {
		r := anyRink(rnd, 60)
		day := anyEvents(rnd, len(r), 8)
		least, most, days := rnd.Intn(20), 50+rnd.Intn(50), 1+rnd.Intn(12)
		bad, zone, e := ice.Keeps(r, day, days, least, most)
		until := days
		if e == api.OK {
			until = bad
			told++
		}
		for _, pick := range []func(api.Span) int{low, high, func(s api.Span) int { return somewhere(rnd, s) }} {
			w := begin(r, pick)
			for range until {
				liveThrough(w, day)
				if i := slices.IndexFunc(w.ice, func(x int) bool { return x < least || x > most }); i >= 0 {
					t.Fatal("left the bounds ahead of the day", r, day, w.ice, least, most, bad)
				}
			}
		}
		if e == api.OK && !canLeave(r[zone], zone, day, bad+1, least, most) {
			t.Fatal("cannot leave the bounds on the day", r, day, least, most, bad, zone)
		}
	}
	if told < 100 {
		t.Fatal("hardly any day was told", told)
	}
}

// liveThrough lets the events of a day truly happen.
func liveThrough(w *truth, day []api.IceEvent) {
	for _, v := range day {
		w.happen(v)
	}
}

// canLeave returns whether a zone leaves the bounds behind so many days, if all goes as low, or as high, as it can.
func canLeave(z api.Zone, zone int, day []api.IceEvent, days, least, most int) bool {
	lo, hi := z.Ice.Lo, z.Ice.Hi
	for range days {
		for _, v := range day {
			if v.From > zone || v.To < zone {
				continue
			}
			switch v.Kind {
			case api.Flood:
				lo, hi = lo+v.Amount.Lo, hi+v.Amount.Hi
			case api.Plane, api.Skate:
				lo, hi = max(0, lo-v.Amount.Hi), max(0, hi-v.Amount.Lo)
			}
		}
	}
	return lo < least || hi > most
}
