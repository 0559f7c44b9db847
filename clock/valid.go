package clock

import "icehall/api"

// within returns whether n is from least to most.
func within(n, least, most int) bool { return least <= n && n <= most }

// isSecond returns whether a number is a second of the day.
func isSecond(n int) bool { return within(n, 0, api.MaxSeconds) }

// isTeam returns whether a number is one of the two teams.
func isTeam(n int) bool { return within(n, 0, 1) }

// isPlayer returns whether a number is a person.
func isPlayer(n int) bool { return within(n, 0, api.MaxPerson) }

// validEvent returns whether an event is valid.
func validEvent(v api.ClockEvent) bool {
	if !isSecond(v.Second) {
		return false
	}
	switch v.Kind {
	case api.ClockStart, api.ClockStop:
		return true
	case api.ClockGoal:
		return isTeam(v.Team)
	case api.ClockMinor, api.ClockDouble, api.ClockMajor, api.ClockMisconduct:
		return isTeam(v.Team) && isPlayer(v.Player)
	}
	return false
}

// validPenalties returns whether the penalties of a team on a board are valid, whatever their kinds are.
func validPenalties(l []api.Penalty) bool {
	if len(l) > api.MaxClockEvents {
		return false
	}
	for _, p := range l {
		if !isPlayer(p.Player) || !within(p.Left, 1, api.MajorLength) {
			return false
		}
	}
	return true
}
