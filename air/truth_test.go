package air_test

import (
	"math/rand"

	"icehall/api"
)

// holding returns what the air holds, once more: from the temperature below on it counts up, as long as that is not above the line to the next one.
func holding(a api.Air, temp int) int {
	for i, t := range a.Temps {
		if t == temp {
			return a.Holds[i] * a.Room
		}
		if i > 0 && a.Temps[i-1] < temp && temp < t {
			more := 0
			for (more+1)*(t-a.Temps[i-1]) <= (a.Holds[i]-a.Holds[i-1])*(temp-a.Temps[i-1]) {
				more++
			}
			return (a.Holds[i-1] + more) * a.Room
		}
	}
	panic("not on the curve")
}

// luck is what is true in a step of all that is not known: what a cubic metre of the outer air has, what all persons breathe, and the steam.
type luck struct{ outer, breath, steam int }

// breaths returns what all persons of a step can breathe.
func breaths(a api.Air, s api.Step) api.Span {
	return span(s.People*a.Breath.Lo, s.People*a.Breath.Hi)
}

// anyLuck returns what may be true in a step.
func anyLuck(rnd *rand.Rand, a api.Air, s api.Step) luck {
	return luck{somewhere(rnd, s.Outer), somewhere(rnd, breaths(a, s)), somewhere(rnd, s.Steam)}
}

// allLuck returns all that may be true in a step.
func allLuck(a api.Air, s api.Step) []luck {
	var l []luck
	for outer := s.Outer.Lo; outer <= s.Outer.Hi; outer++ {
		for breath := breaths(a, s).Lo; breath <= breaths(a, s).Hi; breath++ {
			for steam := s.Steam.Lo; steam <= s.Steam.Hi; steam++ {
				l = append(l, luck{outer, breath, steam})
			}
		}
	}
	return l
}

// truth is the water that there truly is, and what truly came, went out, was dried and became dew; behind each step, what there was, and whether there was dew in it.
type truth struct {
	water, came, out, dried, dew int
	waters                       []int
	dews                         []bool
}

// happen returns the truth behind a step.
func (w truth) happen(a api.Air, s api.Step, is luck) truth {
	out := w.water * s.Change / api.Whole
	if w.water*s.Change%api.Whole != 0 {
		out++
	}
	w.water -= out
	w.out += out
	in := is.outer*a.Room*s.Change/api.Whole + is.breath + is.steam
	w.water += in
	w.came += in
	dried := s.Dryer
	if dried > w.water {
		dried = w.water
	}
	w.water -= dried
	w.dried += dried
	dew := w.water - holding(a, s.Cold)
	if dew < 0 {
		dew = 0
	}
	w.water -= dew
	w.dew += dew
	w.waters = append(w.waters[:len(w.waters):len(w.waters)], w.water)
	w.dews = append(w.dews[:len(w.dews):len(w.dews)], dew > 0)
	return w
}

// rusty returns in how many steps there was more than so many thousandths of what the air holds.
func (w truth) rusty(a api.Air, l []api.Step, limit int) int {
	n := 0
	for i, s := range l {
		if w.waters[i]*api.Whole > limit*holding(a, s.Cold) {
			n++
		}
	}
	return n
}

// anyTruth returns what may be true behind steps.
func anyTruth(rnd *rand.Rand, a api.Air, w api.Span, l []api.Step) truth {
	is := truth{water: somewhere(rnd, w)}
	for _, s := range l {
		is = is.happen(a, s, anyLuck(rnd, a, s))
	}
	return is
}

// truths returns all that may be true behind steps.
func truths(a api.Air, w api.Span, l []api.Step) []truth {
	var all []truth
	for water := w.Lo; water <= w.Hi; water++ {
		all = append(all, truth{water: water})
	}
	for _, s := range l {
		var next []truth
		for _, is := range all {
			for _, x := range allLuck(a, s) {
				next = append(next, is.happen(a, s, x))
			}
		}
		all = next
	}
	return all
}

// spread returns the span of a number of all truths.
func spread(all []truth, number func(truth) int) api.Span {
	s := span(number(all[0]), number(all[0]))
	for _, is := range all {
		s = span(min(s.Lo, number(is)), max(s.Hi, number(is)))
	}
	return s
}

// spreads returns the spans of all that Run tells.
func spreads(all []truth) (end api.Span, m api.Moisture) {
	return spread(all, func(is truth) int { return is.water }), api.Moisture{
		Came:  spread(all, func(is truth) int { return is.came }),
		Out:   spread(all, func(is truth) int { return is.out }),
		Dried: spread(all, func(is truth) int { return is.dried }),
		Dew:   spread(all, func(is truth) int { return is.dew }),
	}
}

// foggy returns the first of so many steps in which there is dew in all truths, and the first one in which there is in any, or -1.
func foggy(all []truth, steps int) (surely, perhaps int) {
	surely, perhaps = -1, -1
	for i := steps - 1; i >= 0; i-- {
		n := 0
		for _, is := range all {
			if is.dews[i] {
				n++
			}
		}
		if n > 0 {
			perhaps = i
		}
		if n == len(all) {
			surely = i
		}
	}
	return surely, perhaps
}
