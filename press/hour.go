package press

import (
	"iter"

	"icehall/api"
)

// choice is what the compressors do in an hour, as in a plan. It is 0 where there is no compressor.
type choice [api.MaxPresses]int

// choices gives all choices of an hour, in order.
func choices(l []api.Press) iter.Seq[choice] {
	return func(yield func(choice) bool) {
		var c choice
		var from func(i int) bool
		from = func(i int) bool {
			if i == len(l) {
				return yield(c)
			}
			for n := range len(l[i].Levels) + 1 {
				c[i] = n
				if !from(i + 1) {
					return false
				}
			}
			return true
		}
		from(0)
	}
}

// state is for how many hours in a row each compressor has run, and how much cold is stored.
type state struct {
	runs   [api.MaxPresses]int
	stored int
}

// together returns the power and the cold of all compressors in an hour.
func together(l []api.Press, c choice) api.Level {
	var all api.Level
	for i, q := range l {
		if c[i] > 0 {
			all.Power += q.Levels[c[i]-1].Power
			all.Cold += q.Levels[c[i]-1].Cold
		}
	}
	return all
}

// may returns whether a compressor that has run for so many hours may do what is chosen.
func may(p api.Press, run, n int) bool {
	if n == 0 {
		return run == 0 || run >= p.Least
	}
	return run < p.Oil
}

// verdict returns OK if an hour can be, or why it cannot.
func verdict(p api.Presses, hour int, s state, c choice) api.Errno {
	for i, q := range p.Presses {
		if !may(q, s.runs[i], c[i]) {
			return api.ErrRefuse
		}
	}
	switch stored := s.stored + together(p.Presses, c).Cold - p.Need[hour]; {
	case stored < 0:
		return api.ErrShort
	case stored > p.Room:
		return api.ErrFull
	}
	return api.OK
}

// charge returns what the peak costs if this is the greatest power of an hour.
func charge(p api.Presses, power int) int { return max(0, power-p.Free) * p.Peak }

// pass lets an hour pass, and returns what it leaves and what it costs. It panics with the reason if the hour cannot be.
func pass(p api.Presses, hour int, s state, c choice) (state, api.PressCost) {
	if e := verdict(p, hour, s, c); e != api.OK {
		panic(e)
	}
	all := together(p.Presses, c)
	cost := api.PressCost{Energy: all.Power * p.Price[hour], Peak: charge(p, all.Power)}
	for i, q := range p.Presses {
		if c[i] == 0 {
			s.runs[i] = 0
			continue
		}
		if s.runs[i] == 0 {
			cost.Starts += q.Start
		}
		s.runs[i]++
	}
	s.stored += all.Cold - p.Need[hour]
	return s, cost
}
