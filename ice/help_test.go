package ice_test

import (
	"math"
	"math/rand"
	"testing"

	"icehall/api"
	"icehall/ice"
)

// odd is numbers that no range of the chapter contains, or that are at the end of one.
var odd = []int{math.MinInt, -1, 0, 1, api.MaxIce, api.MaxIce + 1, math.MaxInt}

func span(lo, hi int) api.Span { return api.Span{Lo: lo, Hi: hi} }

// example returns the rink of the document's examples.
func example() []api.Zone {
	return []api.Zone{
		{Ice: span(3000, 3200), Paint: span(1000, 1100)},
		{Ice: span(2800, 2900), Paint: span(1000, 1000)},
	}
}

// exampleEvents returns the events that the document's examples play.
func exampleEvents() []api.IceEvent {
	return []api.IceEvent{
		{Kind: api.Skate, To: 1, Amount: span(20, 50)},
		{Kind: api.Plane, To: 1, Amount: span(100, 150)},
		{Kind: api.Flood, To: 1, Amount: span(120, 130)},
		{Kind: api.Drill, Amount: span(2950, 3080)},
	}
}

// exampleTable returns the table of the document's examples.
func exampleTable() []api.Bearing {
	return []api.Bearing{{Weight: 100, Ice: 500}, {Weight: 3000, Ice: 2000}, {Weight: 6000, Ice: 2800}}
}

// badRinks returns rinks that are not valid, by what is wrong with them.
func badRinks() map[string][]api.Zone {
	good := api.Zone{Ice: span(10, 20)}
	return map[string][]api.Zone{
		"nil":                  nil,
		"empty":                {},
		"25 zones":             make([]api.Zone, api.MaxZones+1),
		"ice below 0":          {{Ice: span(-1, 5)}},
		"ice above MaxIce":     {{Ice: span(5, api.MaxIce+1)}},
		"ice falls":            {{Ice: span(6, 5)}},
		"paint below 0":        {{Paint: span(-1, 5)}},
		"paint above MaxIce":   {{Paint: span(5, api.MaxIce+1)}},
		"paint falls":          {{Paint: span(6, 5)}},
		"the last zone is bad": {good, good, {Ice: span(6, 5)}},
		"numbers of any size":  {{Ice: span(math.MinInt, math.MaxInt)}},
	}
}

// mustPlay plays events that have to end well.
func mustPlay(t *testing.T, r []api.Zone, l []api.IceEvent) ([]api.Zone, api.IceSums) {
	t.Helper()
	end, s, n, e := ice.Play(r, l)
	if e != api.OK || n != len(l) {
		t.Fatalf("Play(%v, %v): index %d, error %d", r, l, n, e)
	}
	return end, s
}

// somewhere returns a number of a span.
func somewhere(rnd *rand.Rand, s api.Span) int { return s.Lo + rnd.Intn(s.Hi-s.Lo+1) }

// anySpan returns a span within lo to hi, at most wide numbers apart.
func anySpan(rnd *rand.Rand, lo, hi, wide int) api.Span {
	a := lo + rnd.Intn(hi-lo+1)
	return span(a, min(hi, a+rnd.Intn(wide+1)))
}

// anyRink returns a rink whose ice is from 0 to thick.
func anyRink(rnd *rand.Rand, thick int) []api.Zone {
	r := make([]api.Zone, 1+rnd.Intn(4))
	for i := range r {
		r[i] = api.Zone{Ice: anySpan(rnd, 0, thick, 5), Paint: anySpan(rnd, 0, thick, 5)}
	}
	return r
}

// anyEvents returns events for a rink of so many zones, without holes.
func anyEvents(rnd *rand.Rand, zones, most int) []api.IceEvent {
	l := make([]api.IceEvent, rnd.Intn(9))
	for i := range l {
		from := rnd.Intn(zones)
		l[i] = api.IceEvent{Kind: []int{api.Flood, api.Plane, api.Skate, api.Paint}[rnd.Intn(4)], From: from, To: from + rnd.Intn(zones-from), Amount: anySpan(rnd, 0, most, 6)}
	}
	return l
}

// truth is a rink as it truly is, and what truly was frozen, planed off and worn.
type truth struct {
	ice, paint           []int
	frozen, planed, worn int
	pick                 func(api.Span) int
}

// begin returns a rink as it may truly be.
func begin(r []api.Zone, pick func(api.Span) int) *truth {
	w := &truth{pick: pick}
	for _, z := range r {
		w.ice = append(w.ice, pick(z.Ice))
		w.paint = append(w.paint, pick(z.Paint))
	}
	return w
}

// happen makes an event truly happen; a hole shows nothing new to the ice.
func (w *truth) happen(v api.IceEvent) {
	if v.Kind == api.Drill {
		return
	}
	for i := v.From; i <= v.To; i++ {
		switch v.Kind {
		case api.Flood:
			by := w.pick(v.Amount)
			w.ice[i] += by
			w.frozen += by
		case api.Plane:
			by := min(w.pick(v.Amount), w.ice[i])
			w.ice[i] -= by
			w.planed += by
		case api.Skate:
			by := min(w.pick(v.Amount), w.ice[i])
			w.ice[i] -= by
			w.worn += by
		case api.Paint:
			w.paint[i] = w.ice[i]
		}
	}
}

// sum returns all ice together.
func sum(l []int) int {
	all := 0
	for _, x := range l {
		all += x
	}
	return all
}

func inside(x int, s api.Span) bool { return s.Lo <= x && x <= s.Hi }
