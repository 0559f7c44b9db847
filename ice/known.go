package ice

import (
	"iter"

	"icehall/api"
)

// kinds is how many kinds of events there are.
const kinds = api.Paint + 1

// sheet is the span of the thicknesses that ice can have.
type sheet api.Span

// grow makes the ice thicker by a number of by.
func (s *sheet) grow(by api.Span) {
	s.Lo += by.Lo
	s.Hi += by.Hi
}

// shrink makes the ice thinner by a number of by, or to 0, and returns how much that takes off.
func (s *sheet) shrink(by api.Span) api.Span {
	off := api.Span{Lo: min(s.Lo, by.Lo), Hi: min(s.Hi, by.Hi)}
	s.Lo = max(0, s.Lo-by.Hi)
	s.Hi = max(0, s.Hi-by.Lo)
	return off
}

// measure keeps the thicknesses that a hole shows, too. It panics if there is none: the hole cannot be.
func (s *sheet) measure(hole api.Span) {
	s.Lo = max(s.Lo, hole.Lo)
	s.Hi = min(s.Hi, hole.Hi)
	if s.Lo > s.Hi {
		panic("a hole that cannot be")
	}
}

// zone is what is known of a zone.
type zone struct {
	sheet
	paint api.Span
}

// known is what is known of a rink, and what was frozen, planed off and worn there.
type known struct {
	zones []zone
	sums  api.IceSums
}

// learn returns what is known of a rink to which nothing has happened yet.
func learn(r []api.Zone) *known {
	k := &known{zones: make([]zone, len(r))}
	for i, z := range r {
		k.zones[i] = zone{sheet: sheet(z.Ice), paint: z.Paint}
	}
	return k
}

// rink returns the zones as they are known.
func (k *known) rink() []api.Zone {
	r := make([]api.Zone, len(k.zones))
	for i, z := range k.zones {
		r[i] = api.Zone{Ice: api.Span(z.sheet), Paint: z.paint}
	}
	return r
}

// touched returns the zones of a valid event.
func (k *known) touched(v api.IceEvent) iter.Seq[*zone] {
	last := v.To
	if v.Kind == api.Drill {
		last = v.From
	}
	return func(yield func(*zone) bool) {
		for i := v.From; i <= last; i++ {
			if !yield(&k.zones[i]) {
				return
			}
		}
	}
}

// deeds returns what is done to a zone, by the kinds of events.
func (k *known) deeds() [kinds]func(*zone, api.Span) {
	return [kinds]func(*zone, api.Span){
		api.Flood: func(z *zone, by api.Span) {
			z.grow(by)
			add(&k.sums.Frozen, by)
		},
		api.Plane: func(z *zone, by api.Span) { add(&k.sums.Planed, z.shrink(by)) },
		api.Skate: func(z *zone, by api.Span) { add(&k.sums.Worn, z.shrink(by)) },
		api.Drill: func(z *zone, hole api.Span) { z.measure(hole) },
		api.Paint: func(z *zone, _ api.Span) { z.paint = api.Span(z.sheet) },
	}
}

// take takes an event. What is known is of no use any more if it returns an error.
func (k *known) take(v api.IceEvent) (e api.Errno) {
	if !validEvent(v, len(k.zones)) {
		return api.ErrArg
	}
	defer func() {
		if recover() != nil {
			e = api.ErrState
		}
	}()
	do := k.deeds()[v.Kind]
	for z := range k.touched(v) {
		do(z, v.Amount)
		// Only a flood makes ice thicker, so nothing else can end here.
		if z.Hi > api.MaxIce {
			return api.ErrLimit
		}
	}
	return api.OK
}

// add adds a span to a sum of spans.
func add(sum *api.Span, s api.Span) {
	sum.Lo += s.Lo
	sum.Hi += s.Hi
}
