package roster

import "icehall/api"

// within returns whether n is from least to most.
func within(n, least, most int) bool { return least <= n && n <= most }

// isDay returns whether a number is a day.
func isDay(n int) bool { return within(n, 0, api.MaxDay) }

// isPerson returns whether a number is a person.
func isPerson(n int) bool { return within(n, 0, api.MaxPerson) }

// isClub returns whether a number is a club.
func isClub(n int) bool { return within(n, 0, api.MaxClub) }

// validEvent returns whether an event is valid. Here, unlike elsewhere, a field that a kind does not use has to be empty.
func validEvent(v api.RosterEvent) bool {
	if !isDay(v.Day) {
		return false
	}
	if v.Kind == api.Match {
		return v.Person == 0 && isClub(v.N) && validSheet(v.Sheet)
	}
	return isPerson(v.Person) && len(v.Sheet) == 0 && validNumber(v.Kind, v.N)
}

// validNumber returns whether a number is one for a kind of what happens to players.
func validNumber(kind, n int) bool {
	switch kind {
	case api.Join:
		return isClub(n)
	case api.Suspend:
		return within(n, 1, api.MaxBan)
	case api.Hurt, api.Symptom, api.Pass, api.Clear:
		return n == 0
	}
	return false
}

// validSheet returns whether a sheet is persons, strictly rising, and not too many.
func validSheet(l []int) bool {
	if len(l) > api.MaxSheet {
		return false
	}
	for i, person := range l {
		if !isPerson(person) || i > 0 && person <= l[i-1] {
			return false
		}
	}
	return true
}
