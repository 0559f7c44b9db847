package ice_test

import (
	"math"
	"slices"
	"testing"

	"icehall/api"
	"icehall/ice"
)

// playCase is a call of Play and its results.
type playCase struct {
	name string
	rink []api.Zone
	list []api.IceEvent
	end  []api.Zone
	sums api.IceSums
	n    int
	e    api.Errno
}

func checkPlays(t *testing.T, cases []playCase) {
	t.Helper()
	for _, c := range cases {
		end, s, n, e := ice.Play(c.rink, c.list)
		if !slices.Equal(end, c.end) || s != c.sums || n != c.n || e != c.e {
			t.Errorf("%s: %v, %v, %d, %d; want %v, %v, %d, %d", c.name, end, s, n, e, c.end, c.sums, c.n, c.e)
		}
	}
}

// P1.1: what each kind of event leaves, and the sums.
func TestPlayKinds(t *testing.T) {
	one := []api.Zone{{Ice: span(30, 90), Paint: span(10, 12)}}
	event := func(kind, lo, hi int) []api.IceEvent {
		return []api.IceEvent{{Kind: kind, Amount: span(lo, hi)}}
	}
	zone := func(lo, hi int) []api.Zone { return []api.Zone{{Ice: span(lo, hi), Paint: span(10, 12)}} }
	checkPlays(t, []playCase{
		{name: "the document's example", rink: example(), list: exampleEvents(),
			end:  []api.Zone{{Ice: span(2950, 3080), Paint: span(1000, 1100)}, {Ice: span(2720, 2910), Paint: span(1000, 1000)}},
			sums: api.IceSums{Frozen: span(240, 260), Planed: span(200, 300), Worn: span(40, 100)}, n: 4},
		{name: "the example without the hole", rink: example(), list: exampleEvents()[:3],
			end:  []api.Zone{{Ice: span(2920, 3210), Paint: span(1000, 1100)}, {Ice: span(2720, 2910), Paint: span(1000, 1000)}},
			sums: api.IceSums{Frozen: span(240, 260), Planed: span(200, 300), Worn: span(40, 100)}, n: 3},
		{name: "flood", rink: one, list: event(api.Flood, 5, 9), end: zone(35, 99), sums: api.IceSums{Frozen: span(5, 9)}, n: 1},
		{name: "plane", rink: one, list: event(api.Plane, 5, 9), end: zone(21, 85), sums: api.IceSums{Planed: span(5, 9)}, n: 1},
		{name: "skate", rink: one, list: event(api.Skate, 5, 9), end: zone(21, 85), sums: api.IceSums{Worn: span(5, 9)}, n: 1},
		{name: "a hole narrows both ends", rink: one, list: event(api.Drill, 40, 50), end: zone(40, 50), n: 1},
		{name: "a hole narrows the low end", rink: one, list: event(api.Drill, 40, 500), end: zone(40, 90), n: 1},
		{name: "a hole narrows the high end", rink: one, list: event(api.Drill, 0, 50), end: zone(30, 50), n: 1},
		{name: "a hole tells nothing new", rink: one, list: event(api.Drill, 0, 20000), end: zone(30, 90), n: 1},
		{name: "paint", rink: one, list: event(api.Paint, 1, 2), end: []api.Zone{{Ice: span(30, 90), Paint: span(30, 90)}}, n: 1},
		{name: "paint stays when the ice changes", rink: one, list: append(event(api.Paint, 0, 0), event(api.Flood, 1, 2)...),
			end: []api.Zone{{Ice: span(31, 92), Paint: span(30, 90)}}, sums: api.IceSums{Frozen: span(1, 2)}, n: 2},
		{name: "planed down to 0 by the most only", rink: one, list: event(api.Plane, 20, 30), end: zone(0, 70), sums: api.IceSums{Planed: span(20, 30)}, n: 1},
		{name: "there may be less than is planed", rink: one, list: event(api.Plane, 50, 60), end: zone(0, 40), sums: api.IceSums{Planed: span(30, 60)}, n: 1},
		{name: "planed down to 0", rink: one, list: event(api.Plane, 90, 100), end: zone(0, 0), sums: api.IceSums{Planed: span(30, 90)}, n: 1},
		{name: "worn down to 0", rink: one, list: event(api.Skate, 100, 200), end: zone(0, 0), sums: api.IceSums{Worn: span(30, 90)}, n: 1},
		{name: "no ice is left to take", rink: []api.Zone{{}}, list: append(event(api.Skate, 4, 5), event(api.Plane, 6, 7)...), end: []api.Zone{{}}, n: 2},
		{name: "amounts of nothing", rink: one, list: append(event(api.Flood, 0, 0), event(api.Plane, 0, 0)...), end: zone(30, 90), n: 2},
	})
}

// P1.1 and P1.7: an event changes the zones from From to To, and no other one; the sums are of all zones.
func TestPlayZones(t *testing.T) {
	rink := []api.Zone{{Ice: span(10, 11)}, {Ice: span(20, 22)}, {Ice: span(30, 33)}, {Ice: span(40, 44)}}
	for from := range rink {
		for to := from; to < len(rink); to++ {
			for kind := api.Flood; kind <= api.Paint; kind++ {
				v := api.IceEvent{Kind: kind, From: from, To: to, Amount: span(1, 50)}
				end, s := mustPlay(t, rink, []api.IceEvent{v})
				last := to
				if kind == api.Drill {
					last = from
				}
				var all api.IceSums
				for i := range rink {
					want := rink[i]
					if i >= from && i <= last {
						alone, own := mustPlay(t, rink[i:i+1], []api.IceEvent{{Kind: kind, Amount: v.Amount}})
						want = alone[0]
						all = addSums(all, own)
					}
					if end[i] != want {
						t.Errorf("%v: zone %d is %v, want %v", v, i, end[i], want)
					}
				}
				if s != all {
					t.Errorf("%v: sums %v, want %v", v, s, all)
				}
			}
		}
	}
}

func addSums(a, b api.IceSums) api.IceSums {
	plus := func(a, b api.Span) api.Span { return span(a.Lo+b.Lo, a.Hi+b.Hi) }
	return api.IceSums{Frozen: plus(a.Frozen, b.Frozen), Planed: plus(a.Planed, b.Planed), Worn: plus(a.Worn, b.Worn)}
}

// P1.1: the ends of what is allowed.
func TestPlayLimits(t *testing.T) {
	flood := func(n int) []api.IceEvent {
		return slices.Repeat([]api.IceEvent{{Kind: api.Flood, Amount: span(1, 2)}}, n)
	}
	thick := []api.Zone{{Ice: span(1, 100)}}
	wide := slices.Repeat([]api.Zone{{Ice: span(0, api.MaxIce), Paint: span(0, api.MaxIce)}}, api.MaxZones)
	all := []api.IceEvent{{Kind: api.Plane, To: api.MaxZones - 1, Amount: span(0, api.MaxIce)}}
	checkPlays(t, []playCase{
		{name: "nil", rink: example(), end: example()},
		{name: "an empty list", rink: example(), list: []api.IceEvent{}, end: example()},
		{name: "256 events", rink: thick, list: flood(256), end: []api.Zone{{Ice: span(257, 612)}}, sums: api.IceSums{Frozen: span(256, 512)}, n: 256},
		{name: "257 events", rink: thick, list: flood(257), e: api.ErrLong},
		{name: "just MaxIce", rink: thick, list: []api.IceEvent{{Amount: span(0, api.MaxIce-100)}}, end: []api.Zone{{Ice: span(1, api.MaxIce)}}, sums: api.IceSums{Frozen: span(0, api.MaxIce-100)}, n: 1},
		{name: "one more than MaxIce", rink: thick, list: []api.IceEvent{{Amount: span(0, api.MaxIce-99)}}, e: api.ErrLimit},
		{name: "too much in the last zone only", rink: []api.Zone{{}, {}, {Ice: span(1, 1)}}, list: []api.IceEvent{{To: 2, Amount: span(0, api.MaxIce)}}, e: api.ErrLimit},
		{name: "too much in a zone that is not flooded", rink: []api.Zone{{}, {}, {Ice: span(1, 1)}}, list: []api.IceEvent{{To: 1, Amount: span(0, api.MaxIce)}},
			end: []api.Zone{{Ice: span(0, api.MaxIce)}, {Ice: span(0, api.MaxIce)}, {Ice: span(1, 1)}}, sums: api.IceSums{Frozen: span(0, 2*api.MaxIce)}, n: 1},
		{name: "24 zones, as wide as can be", rink: wide, list: all, end: wide, sums: api.IceSums{Planed: span(0, api.MaxZones*api.MaxIce)}, n: 1},
		{name: "a hole touches the low end", rink: thick, list: []api.IceEvent{{Kind: api.Drill, Amount: span(0, 1)}}, end: []api.Zone{{Ice: span(1, 1)}}, n: 1},
		{name: "a hole touches the high end", rink: thick, list: []api.IceEvent{{Kind: api.Drill, Amount: span(100, 200)}}, end: []api.Zone{{Ice: span(100, 100)}}, n: 1},
		{name: "a hole that is too thin", rink: thick, list: []api.IceEvent{{Kind: api.Drill, Amount: span(0, 0)}}, e: api.ErrState},
		{name: "a hole that is too thick", rink: thick, list: []api.IceEvent{{Kind: api.Drill, Amount: span(101, 200)}}, e: api.ErrState},
	})
}

// P1.1: which events are not valid.
func TestPlayBadEvents(t *testing.T) {
	good := api.IceEvent{Kind: api.Skate, To: 1, Amount: span(1, 2)}
	for _, v := range []api.IceEvent{
		{Kind: -1}, {Kind: 5}, {Kind: math.MaxInt}, {Kind: math.MinInt},
		{From: -1}, {From: math.MinInt}, {From: 2, To: 2}, {From: math.MaxInt, To: math.MaxInt},
		{To: -1}, {To: 2}, {To: math.MaxInt}, {From: 1, To: 0},
		{Kind: api.Drill, From: 2, Amount: span(0, 9)}, {Kind: api.Drill, From: -1, Amount: span(0, 9)},
		{Kind: api.Paint, From: 1, To: 0}, {Kind: api.Paint, To: 2}, {Kind: api.Paint, From: -1},
		{Amount: span(2, 1)}, {Amount: span(-1, 1)}, {Amount: span(0, api.MaxIce+1)}, {Amount: span(math.MinInt, math.MaxInt)},
		{Kind: api.Plane, Amount: span(2, 1)}, {Kind: api.Skate, Amount: span(-1, 1)}, {Kind: api.Drill, Amount: span(0, api.MaxIce+1)},
	} {
		for before := range 3 {
			l := append(slices.Repeat([]api.IceEvent{good}, before), v, good)
			checkPlays(t, []playCase{{name: "a bad event", rink: example(), list: l, n: before, e: api.ErrArg}})
		}
	}
}

// R8: To of a hole and the Amount of paint are not looked at.
func TestPlayUnused(t *testing.T) {
	for _, a := range odd {
		end, _ := mustPlay(t, example(), []api.IceEvent{{Kind: api.Drill, From: 1, To: a, Amount: span(2850, 9999)}})
		if end[0] != example()[0] || end[1].Ice != span(2850, 2900) {
			t.Errorf("a hole with To %d: %v", a, end)
		}
		for _, b := range odd {
			end, _ := mustPlay(t, example(), []api.IceEvent{{Kind: api.Paint, To: 1, Amount: span(a, b)}})
			if end[0].Paint != span(3000, 3200) || end[1].Paint != span(2800, 2900) {
				t.Errorf("paint of %d to %d: %v", a, b, end)
			}
		}
	}
}

// P1.1 and R1: the first error decides.
func TestPlayErrorOrder(t *testing.T) {
	bad := api.IceEvent{Kind: 9}
	full := api.IceEvent{Amount: span(0, api.MaxIce)}
	never := api.IceEvent{Kind: api.Drill, Amount: span(0, 1)}
	good := api.IceEvent{Amount: span(1, 1)}
	long := slices.Repeat([]api.IceEvent{bad}, api.MaxIceEvents+1)
	checkPlays(t, []playCase{
		{name: "long, and bad events", rink: example(), list: long, e: api.ErrLong},
		{name: "as many as can be, and all bad", rink: example(), list: long[1:], e: api.ErrArg},
		{name: "bad first", rink: example(), list: []api.IceEvent{good, bad, full, never}, n: 1, e: api.ErrArg},
		{name: "too much first", rink: example(), list: []api.IceEvent{good, full, bad, never}, n: 1, e: api.ErrLimit},
		{name: "a hole that cannot be first", rink: example(), list: []api.IceEvent{good, good, never, full, bad}, n: 2, e: api.ErrState},
		{name: "too much, and not valid", rink: example(), list: []api.IceEvent{{To: 2, Amount: span(0, api.MaxIce)}}, e: api.ErrArg},
		{name: "a hole that cannot be, and is not valid", rink: example(), list: []api.IceEvent{{Kind: api.Drill, Amount: span(1, 0)}}, e: api.ErrArg},
	})
	for name, r := range badRinks() {
		checkPlays(t, []playCase{
			{name: name, rink: r, e: api.ErrArg},
			{name: name + ", and long", rink: r, list: long, e: api.ErrArg},
			{name: name + ", and too much", rink: r, list: []api.IceEvent{good, full}, e: api.ErrArg},
		})
	}
}
