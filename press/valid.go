package press

import "icehall/api"

// within returns whether a number is from 0 to most.
func within(n, most int) bool { return 0 <= n && n <= most }

// allWithin returns whether all numbers are from 0 to most.
func allWithin(l []int, most int) bool {
	for _, n := range l {
		if !within(n, most) {
			return false
		}
	}
	return true
}

// validPresses returns whether compressors are valid.
func validPresses(p api.Presses) bool {
	if len(p.Presses) < 1 || len(p.Presses) > api.MaxPresses {
		return false
	}
	for _, q := range p.Presses {
		if !validPress(q) {
			return false
		}
	}
	return validHours(p) &&
		within(p.Room, api.MaxCold) && within(p.Stored, p.Room) &&
		within(p.Peak, api.MaxCents) && within(p.Free, api.MaxPresses*api.MaxPower)
}

// validHours returns whether what is needed and what power costs is valid.
func validHours(p api.Presses) bool {
	return len(p.Need) == len(p.Price) && len(p.Need) <= api.MaxPressHours &&
		allWithin(p.Need, api.MaxPresses*api.MaxCold) && allWithin(p.Price, api.MaxCents)
}

// validPress returns whether a compressor is valid.
func validPress(p api.Press) bool {
	if len(p.Levels) < 1 || len(p.Levels) > api.MaxLevels {
		return false
	}
	for _, l := range p.Levels {
		if l.Power < 1 || l.Power > api.MaxPower || !within(l.Cold, api.MaxCold) {
			return false
		}
	}
	return within(p.Start, api.MaxCents) && 1 <= p.Least && p.Least <= p.Oil &&
		p.Oil <= api.MaxPressHours && within(p.On, p.Oil)
}

// validPlan returns whether a plan has no more lists than there are hours, each with a choice for each compressor.
func validPlan(p api.Presses, plan [][]int) bool {
	if len(plan) > len(p.Need) {
		return false
	}
	for _, list := range plan {
		if len(list) != len(p.Presses) {
			return false
		}
		for i, n := range list {
			if !within(n, len(p.Presses[i].Levels)) {
				return false
			}
		}
	}
	return true
}
