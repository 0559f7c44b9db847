package press

import "icehall/api"

// shift is compressors at work: the state that they are in, and what they have cost.
type shift struct {
	p    api.Presses
	now  state
	cost api.PressCost
}

// begin returns compressors ahead of their first hour.
func begin(p api.Presses) *shift {
	s := &shift{p: p, now: state{stored: p.Stored}}
	for i, q := range p.Presses {
		s.now.runs[i] = q.On
	}
	return s
}

// play does the first hours of a valid plan, and returns how many they are, or the one that cannot be, and why.
func (s *shift) play(plan [][]int) (hour int, e api.Errno) {
	defer func() {
		if why := recover(); why != nil {
			e = cause(why)
		}
	}()
	for hour = range plan {
		var c choice
		copy(c[:], plan[hour])
		s.work(hour, c)
	}
	return len(plan), api.OK
}

// cause returns the error with which an hour that cannot be ended. A panic without one is never taken for success.
func cause(why any) api.Errno {
	if e, ok := why.(api.Errno); ok {
		return e
	}
	return api.ErrRefuse
}

// work does the next hour.
func (s *shift) work(hour int, c choice) {
	now, cost := pass(s.p, hour, s.now, c)
	s.now = now
	s.cost.Energy += cost.Energy
	s.cost.Starts += cost.Starts
	// The greater the power of an hour the higher its charge, so the highest one is that of the peak.
	s.cost.Peak = max(s.cost.Peak, cost.Peak)
}

// presses returns the compressors as they are now, behind so many hours.
func (s *shift) presses(hours int) api.Presses {
	p := s.p
	p.Presses = make([]api.Press, len(s.p.Presses))
	for i, q := range s.p.Presses {
		q.Levels = append([]api.Level(nil), q.Levels...)
		q.On = s.now.runs[i]
		p.Presses[i] = q
	}
	p.Stored = s.now.stored
	p.Need = append([]int(nil), p.Need[hours:]...)
	p.Price = append([]int(nil), p.Price[hours:]...)
	return p
}
