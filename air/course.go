package air

import (
	"iter"

	"icehall/api"
)

// course is the water in the air if all that is known within bounds is one number, and how much came, went out, was dried and became dew so far.
type course struct{ water, came, out, dried, dew int }

// pass lets a moment pass in which so much comes.
func (c *course) pass(m moment, comes int) {
	// What stays of the change is rounded down, so that what goes out is rounded up.
	stays := part(c.water, api.Whole-m.change)
	c.out += c.water - stays
	c.came += comes
	there := stays + comes
	dried := min(there, m.dryer)
	c.dried += dried
	c.water = min(there-dried, m.holds)
	c.dew += there - dried - c.water
}

// wetter returns whether there is more water than so many thousandths of what the air holds.
func (c course) wetter(thousandths, holds int) bool {
	return c.water*api.Whole > thousandths*holds
}

// known is what is known: the course on which there is the least of all, and the one on which there is the most.
type known struct{ least, most course }

// follow gives what is known behind each moment, if there is so much water at first. More water never means less of anything later, so that the two ends bound all that can be.
func follow(w api.Span, l []moment) iter.Seq2[int, known] {
	return func(yield func(int, known) bool) {
		least := course{water: w.Lo}
		most := least
		most.water = w.Hi
		passLeast, passMost := least.pass, most.pass
		for i, m := range l {
			passLeast(m, m.comes.Lo)
			passMost(m, m.comes.Hi)
			if !yield(i, known{least: least, most: most}) {
				return
			}
		}
	}
}

// water returns what is known of the water in the air.
func (k known) water() api.Span { return api.Span{Lo: k.least.water, Hi: k.most.water} }

// moisture returns what is known of the water that came, and that is not in the air any more.
func (k known) moisture() api.Moisture {
	return api.Moisture{
		Came:  api.Span{Lo: k.least.came, Hi: k.most.came},
		Out:   api.Span{Lo: k.least.out, Hi: k.most.out},
		Dried: api.Span{Lo: k.least.dried, Hi: k.most.dried},
		Dew:   api.Span{Lo: k.least.dew, Hi: k.most.dew},
	}
}
