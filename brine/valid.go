package brine

import "icehall/api"

// isHeat returns whether a number is heat within its bounds.
func isHeat(n int) bool { return 0 <= n && n <= api.MaxHeat }

// isLitres returns whether a number is litres within their bounds, and not none.
func isLitres(n int) bool { return 1 <= n && n <= api.MaxLitres }

// allHeat returns whether all numbers are heat within its bounds.
func allHeat(l []int) bool {
	for _, n := range l {
		if !isHeat(n) {
			return false
		}
	}
	return true
}

// validBrine returns whether brine is valid.
func validBrine(b api.Brine) bool {
	if !validTank(b.Tank) || len(b.Pipes) < 1 || len(b.Pipes) > api.MaxPipes {
		return false
	}
	for _, p := range b.Pipes {
		if !validPipe(p) {
			return false
		}
	}
	return isHeat(b.HeatRoom) && 0 <= b.Heat && b.Heat <= b.HeatRoom
}

// validTank returns whether brine can be in the tank.
func validTank(s api.Slug) bool {
	return s == api.Slug{} || isLitres(s.Volume) && isHeat(s.Heat)
}

// validPipe returns whether a pipe and its slugs are valid.
func validPipe(p api.Pipe) bool {
	if !isLitres(p.Room) || len(p.Slugs) > api.MaxSlugs {
		return false
	}
	free := p.Room
	for _, s := range p.Slugs {
		if !isLitres(s.Volume) || !isHeat(s.Heat) {
			return false
		}
		free -= s.Volume
	}
	return free >= 0
}

// validEvent returns whether an event is valid for brine with so many pipes.
func validEvent(v api.BrineEvent, pipes int) bool {
	onPipe := 0 <= v.Pipe && v.Pipe < pipes
	switch v.Kind {
	case api.Pump:
		return isLitres(v.Amount)
	case api.Warm:
		return onPipe && isHeat(v.Heat)
	case api.Leak:
		return onPipe && isLitres(v.Amount)
	case api.Fill:
		return isLitres(v.Amount) && isHeat(v.Heat)
	case api.Chill, api.Use:
		return isHeat(v.Heat)
	}
	return false
}
