package air

import "icehall/api"

// within returns whether a number is from least to most.
func within(n, least, most int) bool { return least <= n && n <= most }

// spanWithin returns whether a span is valid and within 0 to most.
func spanWithin(s api.Span, most int) bool {
	return 0 <= s.Lo && s.Lo <= s.Hi && s.Hi <= most
}

// validAir returns whether air is valid.
func validAir(a api.Air) bool {
	return within(a.Room, 1, api.MaxRoom) && spanWithin(a.Breath, api.MaxBreath) &&
		within(len(a.Temps), 1, api.MaxCurve) && validCurve(a.Temps, a.Holds)
}

// validCurve returns whether there is what the air holds for each of the temperatures, and both are valid.
func validCurve(temps, holds []int) bool {
	if len(temps) != len(holds) {
		return false
	}
	for i := range temps {
		if !within(temps[i], -api.MaxTenth, api.MaxTenth) || !within(holds[i], 1, api.MaxHold) {
			return false
		}
		if i > 0 && (temps[i] <= temps[i-1] || holds[i] < holds[i-1]) {
			return false
		}
	}
	return true
}

// onCurve returns whether a temperature is from the first to the last one of valid air.
func onCurve(a api.Air, temp int) bool {
	return within(temp, a.Temps[0], a.Temps[len(a.Temps)-1])
}

// validStep returns whether a step is valid for valid air.
func validStep(a api.Air, s api.Step) bool {
	return onCurve(a, s.Cold) && within(s.People, 0, api.MaxPeople) && within(s.Change, 0, api.Whole) &&
		spanWithin(s.Outer, api.MaxHold) && spanWithin(s.Steam, api.MaxSteam) && within(s.Dryer, 0, api.MaxSteam)
}
