package panel

import "icehall/api"

// within returns whether n is from least to most.
func within(n, least, most int) bool { return least <= n && n <= most }

// allWithin returns whether all numbers are from least to most.
func allWithin(l []int, least, most int) bool {
	for _, n := range l {
		if !within(n, least, most) {
			return false
		}
	}
	return true
}

// areClubs returns whether all numbers are clubs.
func areClubs(l []int) bool { return allWithin(l, 0, api.MaxClub) }

// validMeeting returns whether a meeting is valid.
func validMeeting(x api.Meeting) bool {
	if len(x.Judges) > api.MaxJudges || len(x.Contests) > api.MaxContests {
		return false
	}
	for _, j := range x.Judges {
		if !within(j.Club, 0, api.MaxClub) || !within(j.Level, 0, api.MaxLevel) || !within(j.Most, 0, api.MaxContests) {
			return false
		}
	}
	for _, c := range x.Contests {
		if len(c.Clubs) > api.MaxTaking || !areClubs(c.Clubs) || !within(c.Level, 0, api.MaxLevel) || !within(c.Seats, 0, api.MaxSeats) {
			return false
		}
	}
	return true
}

// validMarks returns whether marks are valid.
func validMarks(m api.Marks) bool {
	if len(m.Skaters) > api.MaxSkaters || len(m.Judges) > api.MaxJudges || !areClubs(m.Skaters) || !areClubs(m.Judges) {
		return false
	}
	if len(m.Marks) != len(m.Skaters) {
		return false
	}
	for _, row := range m.Marks {
		if len(row) != len(m.Judges) || !allWithin(row, 0, api.MaxMark) {
			return false
		}
	}
	return true
}

// validCall returns whether a number can be a call.
func validCall(call int) bool { return within(call, 0, api.MaxCall) }

// validCalls returns whether calls are valid.
func validCalls(l []int) bool { return len(l) <= api.MaxCalls && allWithin(l, 0, api.MaxCall) }

// validVotes returns whether votes are valid.
func validVotes(l []int) bool {
	return within(len(l), 1, api.MaxVotes) && allWithin(l, 0, api.MaxCall)
}

// validAppeal returns whether an appeal is valid for so many calls.
func validAppeal(a api.Appeal, calls int) bool {
	return within(a.Element, 0, calls-1) && validVotes(a.Votes)
}
