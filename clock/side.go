package clock

import (
	"cmp"
	"slices"

	"icehall/api"
)

// full is how many players a team has on the ice if none is missing.
const full = 5

// side is the goals of a team, its penalties in the order in which they were given, and its misconducts.
type side struct {
	goals                  int
	penalties, misconducts []api.Penalty
}

// served returns the places of the penalties that are served: of the first one, and of the first one behind it that is another player's.
func (s *side) served() []int {
	if len(s.penalties) == 0 {
		return nil
	}
	first := s.penalties[0].Player
	other := slices.IndexFunc(s.penalties, func(p api.Penalty) bool { return p.Player != first })
	if other < 0 {
		return []int{0}
	}
	return []int{0, other}
}

// players returns the strength of the team.
func (s *side) players() int { return full - len(s.served()) }

// running returns all whose time runs while the clock does: the penalties that are served, and the misconducts.
func (s *side) running() []*api.Penalty {
	var all []*api.Penalty
	for _, i := range s.served() {
		all = append(all, &s.penalties[i])
	}
	for i := range s.misconducts {
		all = append(all, &s.misconducts[i])
	}
	return all
}

// lefts returns how much is left of all whose time runs.
func (s *side) lefts() []int {
	var lefts []int
	for _, p := range s.running() {
		lefts = append(lefts, p.Left)
	}
	return lefts
}

// serve serves seconds of all whose time runs, no more than is left of any of them.
func (s *side) serve(seconds int) {
	for _, p := range s.running() {
		p.Left -= seconds
	}
	over := func(p api.Penalty) bool { return p.Left == 0 }
	s.penalties = slices.DeleteFunc(s.penalties, over)
	s.misconducts = slices.DeleteFunc(s.misconducts, over)
}

// free ends the first minor penalty that is served, if there is one.
func (s *side) free() {
	for _, i := range s.served() {
		if s.penalties[i].Kind == api.ClockMinor {
			s.penalties = slices.Delete(s.penalties, i, i+1)
			return
		}
	}
}

// least returns the least of several.
func least[T cmp.Ordered](first T, others ...T) T {
	for _, n := range others {
		first = min(first, n)
	}
	return first
}

// copied returns a list in memory of its own: without a capacity nothing can be appended where the list is.
func copied(l []api.Penalty) []api.Penalty { return append(l[:0:0], l...) }
