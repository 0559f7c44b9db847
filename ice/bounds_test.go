package ice_test

import (
	"math/rand"
	"slices"
	"testing"

	"icehall/api"
	"icehall/ice"
)

// P1.6: what truly happens is within what is told, and no ice appears or vanishes.
func TestBoundsHold(t *testing.T) {
	rnd := rand.New(rand.NewSource(6))
	pick := func(s api.Span) int { return somewhere(rnd, s) }
	for range 3000 {
		r := anyRink(rnd, 40)
		l := anyEvents(rnd, len(r), 15)
		end, s := mustPlay(t, r, l)
		for range 5 {
			w := begin(r, pick)
			was := sum(w.ice)
			liveThrough(w, l)
			for i, z := range end {
				if !inside(w.ice[i], z.Ice) || !inside(w.paint[i], z.Paint) {
					t.Fatal("a zone is not as it is told", r, l, i, w.ice[i], w.paint[i], z)
				}
			}
			if !inside(w.frozen, s.Frozen) || !inside(w.planed, s.Planed) || !inside(w.worn, s.Worn) {
				t.Fatal("a sum is not as it is told", r, l, w, s)
			}
			if was+w.frozen != sum(w.ice)+w.planed+w.worn {
				t.Fatal("ice appeared or vanished", r, l, w)
			}
		}
	}
}

// P1.1 and P1.6: of one event, just what can be is told: both ends, and nothing beyond.
func TestBoundsTight(t *testing.T) {
	for lo := range 5 {
		for hi := lo; hi < 7; hi++ {
			for a := range 6 {
				for b := a; b < 9; b++ {
					for kind := api.Flood; kind <= api.Drill; kind++ {
						checkTight(t, kind, span(lo, hi), span(a, b))
					}
				}
			}
		}
	}
}

// checkTight tries each thickness with each amount.
func checkTight(t *testing.T, kind int, before, amount api.Span) {
	t.Helper()
	var ices, changes []int
	for x := before.Lo; x <= before.Hi; x++ {
		for by := amount.Lo; by <= amount.Hi; by++ {
			switch {
			case kind == api.Flood:
				ices, changes = append(ices, x+by), append(changes, by)
			case kind == api.Drill && x == by:
				ices, changes = append(ices, x), append(changes, 0)
			case kind == api.Plane || kind == api.Skate:
				ices, changes = append(ices, x-min(x, by)), append(changes, min(x, by))
			}
		}
	}
	end, s, _, e := ice.Play([]api.Zone{{Ice: before}}, []api.IceEvent{{Kind: kind, Amount: amount}})
	if len(ices) == 0 {
		if e != api.ErrState {
			t.Errorf("kind %d, %v, %v: error %d, want ErrState", kind, before, amount, e)
		}
		return
	}
	if e != api.OK {
		t.Errorf("kind %d, %v, %v: error %d", kind, before, amount, e)
		return
	}
	var want api.IceSums
	change := span(slices.Min(changes), slices.Max(changes))
	switch kind {
	case api.Flood:
		want.Frozen = change
	case api.Plane:
		want.Planed = change
	case api.Skate:
		want.Worn = change
	}
	if end[0].Ice != span(slices.Min(ices), slices.Max(ices)) || s != want {
		t.Errorf("kind %d, %v, %v: %v, %v; want %d to %d, %v", kind, before, amount, end[0].Ice, s, slices.Min(ices), slices.Max(ices), want)
	}
}

// P1.6: both ends of what is told of a zone can be true, if no hole was drilled.
func TestBoundsBothEnds(t *testing.T) {
	rnd := rand.New(rand.NewSource(66))
	for range 2000 {
		r := anyRink(rnd, 40)
		l := anyEvents(rnd, len(r), 15)
		end, _ := mustPlay(t, r, l)
		for i := range r {
			if lo, hi := extremes(r[i].Ice, i, l); end[i].Ice != span(lo, hi) {
				t.Fatal("an end cannot be", r, l, i, end[i], lo, hi)
			}
		}
	}
}

// extremes returns how thin and how thick a zone truly is if all goes as low, and as high, as it can.
func extremes(before api.Span, zone int, l []api.IceEvent) (lo, hi int) {
	lo, hi = before.Lo, before.Hi
	for _, v := range l {
		if v.From > zone || v.To < zone {
			continue
		}
		switch v.Kind {
		case api.Flood:
			lo += v.Amount.Lo
			hi += v.Amount.Hi
		case api.Plane, api.Skate:
			lo -= min(lo, v.Amount.Hi)
			hi -= min(hi, v.Amount.Lo)
		}
	}
	return lo, hi
}

// P1.7: a hole that is true makes no span wider, now or later, and never ends with ErrState.
func TestChecksTrueHoles(t *testing.T) {
	rnd := rand.New(rand.NewSource(7))
	pick := func(s api.Span) int { return somewhere(rnd, s) }
	for range 3000 {
		r := anyRink(rnd, 40)
		plain := anyEvents(rnd, len(r), 15)
		w := begin(r, pick)
		var drilled []api.IceEvent
		for _, v := range plain {
			w.happen(v)
			zone := rnd.Intn(len(r))
			x := w.ice[zone]
			hole := api.IceEvent{Kind: api.Drill, From: zone, Amount: span(max(0, x-rnd.Intn(4)), x+rnd.Intn(4))}
			drilled = append(drilled, v, hole)
		}
		end, _ := mustPlay(t, r, plain)
		known, s := mustPlay(t, r, drilled)
		for i := range r {
			if known[i].Ice.Lo < end[i].Ice.Lo || known[i].Ice.Hi > end[i].Ice.Hi || known[i].Paint.Lo < end[i].Paint.Lo || known[i].Paint.Hi > end[i].Paint.Hi {
				t.Fatal("a hole made a span wider", r, drilled, known, end)
			}
			if !inside(w.ice[i], known[i].Ice) || !inside(w.paint[i], known[i].Paint) {
				t.Fatal("a zone is not as it is told", r, drilled, known, w)
			}
		}
		if !inside(w.frozen, s.Frozen) || !inside(w.planed, s.Planed) || !inside(w.worn, s.Worn) {
			t.Fatal("a sum is not as it is told", r, drilled, s, w)
		}
	}
}

// P1.7: events in two parts leave what they leave in one.
func TestChecksTwoParts(t *testing.T) {
	rnd := rand.New(rand.NewSource(77))
	for range 1000 {
		r := anyRink(rnd, 40)
		l := anyEvents(rnd, len(r), 15)
		l = append(l, api.IceEvent{Kind: api.Drill, Amount: span(0, api.MaxIce)})
		whole, s := mustPlay(t, r, l)
		cut := rnd.Intn(len(l) + 1)
		middle, s1 := mustPlay(t, r, l[:cut])
		end, s2 := mustPlay(t, middle, l[cut:])
		if !slices.Equal(end, whole) || addSums(s1, s2) != s {
			t.Fatal(r, l, cut, end, whole)
		}
	}
}

// P1.7 and P11: zones do not hang on each other, and it makes no difference in which order they are.
func TestChecksZonesAlone(t *testing.T) {
	rnd := rand.New(rand.NewSource(777))
	for range 1000 {
		r := anyRink(rnd, 40)
		l := anyEvents(rnd, len(r), 15)
		end, s := mustPlay(t, r, l)
		var sums api.IceSums
		for i := range r {
			var own []api.IceEvent
			for _, v := range l {
				if v.From <= i && i <= v.To {
					own = append(own, api.IceEvent{Kind: v.Kind, Amount: v.Amount})
				}
			}
			alone, part := mustPlay(t, r[i:i+1], own)
			if alone[0] != end[i] {
				t.Fatal(r, l, i, alone, end)
			}
			sums = addSums(sums, part)
		}
		if s != sums {
			t.Fatal(r, l, s, sums)
		}
		checkMirrored(t, r, l, end, s)
	}
}

// checkMirrored plays the same with the zones the other way round.
func checkMirrored(t *testing.T, r []api.Zone, l []api.IceEvent, end []api.Zone, s api.IceSums) {
	t.Helper()
	r, l = slices.Clone(r), slices.Clone(l)
	slices.Reverse(r)
	for i, v := range l {
		l[i].From, l[i].To = len(r)-1-v.To, len(r)-1-v.From
	}
	back, sums := mustPlay(t, r, l)
	slices.Reverse(back)
	if !slices.Equal(back, end) || s != sums {
		t.Fatal(r, l, back, end)
	}
}
