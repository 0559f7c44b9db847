package score

import "icehall/api"

// within returns whether n is from least to most.
func within(n, least, most int) bool { return least <= n && n <= most }

// inspect returns how many judges the skatings of a contest have, or what is wrong with the rules and the skatings.
func inspect(r api.Rules, l []api.Skating) (int, api.Errno) {
	if len(l) > api.MaxSkatings {
		return 0, api.ErrLong
	}
	judges, given := panel(l)
	if !validRules(r) || given && !within(judges, 1, api.MaxPanel) {
		goto invalid
	}
	for _, s := range l {
		if !validSkating(r, s, judges) {
			goto invalid
		}
	}
	return judges, api.OK
invalid:
	return 0, api.ErrArg
}

// panel returns how many judges there are by the first list of marks that is given, and whether one is given.
func panel(l []api.Skating) (judges int, given bool) {
	for _, s := range l {
		if len(s.Calls) > 0 {
			return len(s.Calls[0].Marks), true
		}
		if len(s.Parts) > 0 {
			return len(s.Parts[0]), true
		}
	}
	return 0, false
}

// validRules returns whether rules are valid.
func validRules(r api.Rules) bool {
	return within(len(r.Bases), 1, api.MaxBases) && allWithin(r.Bases, 0, api.MaxBase) &&
		within(r.Factor, 0, api.MaxFactor) && within(r.Most, 1, api.MaxCalled)
}

// validSkating returns whether a skating is valid for valid rules and a number of judges.
func validSkating(r api.Rules, s api.Skating, judges int) bool {
	if len(s.Calls) > api.MaxCalled || len(s.Parts) > api.MaxParts || !within(s.Over, 0, api.MaxOver) {
		return false
	}
	var taken [api.MaxPlaces]bool
	for _, c := range s.Calls {
		if !validCall(r, c, judges) || taken[c.Place] {
			return false
		}
		taken[c.Place] = true
	}
	for _, marks := range s.Parts {
		if len(marks) != judges || !allWithin(marks, 0, api.MaxQuarters) {
			return false
		}
	}
	return true
}

// validCall returns whether a call is valid for valid rules and a number of judges.
func validCall(r api.Rules, c api.Called, judges int) bool {
	return within(c.Place, 0, api.MaxPlaces-1) && within(c.Element, 0, len(r.Bases)-1) && within(c.Under, 0, api.MaxUnder) &&
		len(c.Marks) == judges && allWithin(c.Marks, -api.MaxGrade, api.MaxGrade)
}

// allWithin returns whether all numbers are from least to most.
func allWithin(l []int, least, most int) bool {
	for _, n := range l {
		if !within(n, least, most) {
			return false
		}
	}
	return true
}
