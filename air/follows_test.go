package air_test

import (
	"math/rand"
	"testing"

	"icehall/air"
	"icehall/api"
)

// P5.7: whatever is true is within what is told, and no water appears or vanishes; with small numbers and great ones.
func TestTruthIsWithin(t *testing.T) {
	rnd := rand.New(rand.NewSource(57))
	for round := range 4000 {
		a, l := anyGreatSteps(rnd)
		w := anySpan(rnd, api.MaxWet, api.MaxWet)
		if round%2 == 0 {
			a = anyAir(rnd)
			w, l = anySpan(rnd, 30, 9), anySteps(rnd, a, 9)
		}
		limit := rnd.Intn(api.Whole + 1)
		end, m := mustRun(t, a, w, l)
		rust := mustRust(t, a, w, l, limit)
		for range 5 {
			is := anyTruth(rnd, a, w, l)
			if !inside(is.water, end) || !inside(is.came, m.Came) || !inside(is.out, m.Out) || !inside(is.dried, m.Dried) || !inside(is.dew, m.Dew) {
				t.Fatal("the water is not as it is told", a, w, l, is, end, m)
			}
			if n := is.rusty(a, l, limit); !inside(n, rust) {
				t.Fatal("the rust is not as it is told", a, w, l, n, rust)
			}
			checkFog(t, a, w, l, is)
		}
		for _, ends := range [][6]int{{w.Lo, m.Came.Lo, end.Lo, m.Out.Lo, m.Dried.Lo, m.Dew.Lo}, {w.Hi, m.Came.Hi, end.Hi, m.Out.Hi, m.Dried.Hi, m.Dew.Hi}} {
			if ends[0]+ends[1] != ends[2]+ends[3]+ends[4]+ends[5] {
				t.Fatal("water appeared or vanished", a, w, l, end, m)
			}
		}
	}
}

// checkFog checks that there is dew in the step in which there surely is, and in none ahead of the one in which there perhaps is.
func checkFog(t *testing.T, a api.Air, w api.Span, l []api.Step, is truth) {
	t.Helper()
	surely, perhaps, e := air.Fog(a, w, l)
	if e == api.OK && surely >= 0 && !is.dews[surely] {
		t.Fatal("there is no dew", a, w, l, is, surely)
	}
	if e == api.ErrNone {
		perhaps = len(l)
	}
	for i := range perhaps {
		if is.dews[i] {
			t.Fatal("there is dew", a, w, l, is, perhaps)
		}
	}
}

// P5.7: narrower spans leave spans that are not wider.
func TestNarrower(t *testing.T) {
	rnd := rand.New(rand.NewSource(570))
	narrower := 0
	for range 3000 {
		a, l := anyGreatSteps(rnd)
		w := anySpan(rnd, api.MaxWet, api.MaxWet)
		end, m := mustRun(t, a, w, l)
		limit := rnd.Intn(api.Whole + 1)
		rust := mustRust(t, a, w, l, limit)
		switch rnd.Intn(3) {
		case 0:
			w = anyPart(rnd, w)
		case 1:
			a.Breath = anyPart(rnd, a.Breath)
		case 2:
			for i := range l {
				l[i].Outer, l[i].Steam = anyPart(rnd, l[i].Outer), anyPart(rnd, l[i].Steam)
			}
		}
		end2, m2 := mustRun(t, a, w, l)
		if !contains(end, end2) || !contains(m.Came, m2.Came) || !contains(m.Out, m2.Out) || !contains(m.Dried, m2.Dried) || !contains(m.Dew, m2.Dew) {
			t.Fatal("a span is wider", a, w, l, end, m, end2, m2)
		}
		if rust2 := mustRust(t, a, w, l, limit); !contains(rust, rust2) {
			t.Fatal("the rust is wider", a, w, l, rust, rust2)
		}
		if end2 != end || m2 != m {
			narrower++
		}
	}
	if narrower < 1000 {
		t.Error("something was narrower", narrower, "times")
	}
}

// both returns a span and another one together.
func both(a, b api.Span) api.Span { return span(a.Lo+b.Lo, a.Hi+b.Hi) }

// P5.7: steps that are taken in two parts leave what they leave in one.
func TestTwoParts(t *testing.T) {
	rnd := rand.New(rand.NewSource(5700))
	for range 3000 {
		a, l := anyGreatSteps(rnd)
		w := anySpan(rnd, api.MaxWet, api.MaxWet)
		cut := rnd.Intn(len(l) + 1)
		limit := rnd.Intn(api.Whole + 1)
		end, m := mustRun(t, a, w, l)
		middle, m1 := mustRun(t, a, w, l[:cut])
		last, m2 := mustRun(t, a, middle, l[cut:])
		sums := api.Moisture{Came: both(m1.Came, m2.Came), Out: both(m1.Out, m2.Out), Dried: both(m1.Dried, m2.Dried), Dew: both(m1.Dew, m2.Dew)}
		if last != end || sums != m {
			t.Fatal(a, w, l, cut, end, m, last, sums)
		}
		if rust := both(mustRust(t, a, w, l[:cut], limit), mustRust(t, a, middle, l[cut:], limit)); rust != mustRust(t, a, w, l, limit) {
			t.Fatal(a, w, l, cut, limit, rust)
		}
	}
}

// P5.7: with a stronger dryer there is no more dew, and no more rust.
func TestStrongerDryer(t *testing.T) {
	rnd := rand.New(rand.NewSource(57000))
	less := 0
	for round := range 4000 {
		a, l := anyGreatSteps(rnd)
		w := anySpan(rnd, api.MaxWet, api.MaxWet)
		if round%2 == 0 {
			a = anyAir(rnd)
			w, l = anySpan(rnd, 30, 9), anySteps(rnd, a, 9)
		}
		if len(l) == 0 {
			continue
		}
		limit := rnd.Intn(api.Whole + 1)
		_, m := mustRun(t, a, w, l)
		rust := mustRust(t, a, w, l, limit)
		s := &l[rnd.Intn(len(l))]
		s.Dryer = min(api.MaxSteam, s.Dryer+1+rnd.Intn(1+s.Dryer))
		_, m2 := mustRun(t, a, w, l)
		rust2 := mustRust(t, a, w, l, limit)
		if m2.Dew.Lo > m.Dew.Lo || m2.Dew.Hi > m.Dew.Hi || rust2.Lo > rust.Lo || rust2.Hi > rust.Hi {
			t.Fatal("there is more", a, w, l, m, m2, rust, rust2)
		}
		if m2.Dew != m.Dew {
			less++
		}
	}
	if less < 500 {
		t.Error("there was less", less, "times")
	}
}
