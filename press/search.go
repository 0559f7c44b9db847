package press

import (
	"iter"
	"math"
	"slices"

	"icehall/api"
)

// moment is an hour, and the state ahead of it.
type moment struct {
	hour int
	state
}

// search looks for the cheapest plan.
type search struct {
	p api.Presses
	// charges is what the peak can cost, rising.
	charges []int
	// least returns the least that is left to be paid at a moment, one number for each of the charges that may be due by then, or nil if no plan can be from there. The charge in the end is a part of it.
	least func(moment) []int
}

// newSearch returns a search that has found nothing yet.
func newSearch(p api.Presses) *search {
	s := &search{p: p, charges: charges(p)}
	known := map[moment][]int{}
	s.least = func(at moment) []int {
		if at.hour == len(p.Need) {
			return s.charges
		}
		if left, ok := known[at]; ok {
			return left
		}
		var left []int
		for c := range s.possible(at) {
			next, pay, due := s.step(at, c)
			if rest := s.least(next); rest != nil {
				left = lesser(left, rest, pay, due)
			}
		}
		known[at] = left
		return left
	}
	return s
}

// charges returns what the peak can cost, rising. The first one is 0, that of no power.
func charges(p api.Presses) []int {
	var l []int
	for c := range choices(p.Presses) {
		l = append(l, charge(p, together(p.Presses, c).Power))
	}
	slices.Sort(l)
	return slices.Compact(l)
}

// lesser returns the lesser numbers of left (nil is greater than all) and of what is left with a choice: pay now, and rest behind it, if the charge due comes with it.
func lesser(left, rest []int, pay, due int) []int {
	if left == nil {
		left = slices.Repeat([]int{math.MaxInt}, len(rest))
	}
	for i := range left {
		left[i] = min(left[i], pay+rest[max(i, due)])
	}
	return left
}

// possible gives the choices with which the hour of a moment can be, in order.
func (s *search) possible(at moment) iter.Seq[choice] {
	return func(yield func(choice) bool) {
		for c := range choices(s.p.Presses) {
			if verdict(s.p, at.hour, at.state, c) == api.OK && !yield(c) {
				return
			}
		}
	}
}

// first returns the moment ahead of the first hour.
func (s *search) first() moment { return s.alike(moment{state: begin(s.p).now}) }

// step returns the moment behind a choice that can be, what has to be paid now, and the index of the charge that is due for the power.
func (s *search) step(at moment, c choice) (next moment, pay, due int) {
	now, cost := pass(s.p, at.hour, at.state, c)
	due, _ = slices.BinarySearch(s.charges, cost.Peak)
	return s.alike(moment{hour: at.hour + 1, state: now}), cost.Energy + cost.Starts, due
}

// alike returns the moment that stands for all those from which the same can be, at the same cost: without it there are several times as many.
func (s *search) alike(at moment) moment {
	for i, q := range s.p.Presses {
		at.runs[i] = alikeRun(q, at.runs[i], len(s.p.Need)-at.hour)
	}
	return at
}

// alikeRun returns for how long a compressor can as well have run, if so many hours are left.
func alikeRun(p api.Press, run, left int) int {
	switch {
	case run == 0:
		return 0
	case p.Least-run >= left:
		return 1 // It has to run to the end.
	case p.Least <= run && p.Oil-run >= left:
		return p.Least // It may be off now, and can run to the end.
	}
	return run
}

// plan returns the first of the cheapest plans. There has to be one.
func (s *search) plan() [][]int {
	var plan [][]int
	at, top := s.first(), 0
	for range s.p.Need {
		for c := range s.possible(at) {
			next, pay, due := s.step(at, c)
			due = max(top, due)
			rest := s.least(next)
			if rest == nil || pay+rest[due] != s.least(at)[top] {
				continue
			}
			plan = append(plan, list(c, len(s.p.Presses)))
			at, top = next, due
			break
		}
	}
	return plan
}

// list returns the choices of so many compressors.
func list(c choice, n int) []int {
	l := make([]int, n)
	copy(l, c[:])
	return l
}
