package league

import "icehall/api"

// within returns whether n is from least to most.
func within(n, least, most int) bool { return least <= n && n <= most }

// isTeam returns whether a number is the index of a team.
func isTeam(l api.League, n int) bool { return within(n, 0, len(l.Far)-1) }

// validLeague returns whether a league is valid.
func validLeague(l api.League) bool {
	if !validFar(l.Far) || len(l.Games) > api.MaxGames {
		return false
	}
	open := 0
	for _, g := range l.Games {
		if !validGame(l, g) {
			return false
		}
		if isOpen(g) {
			open++
		}
	}
	return open <= api.MaxOpen
}

// validFar returns whether there are not too many teams, and a distance from each one to each one.
func validFar(far [][]int) bool {
	if len(far) > api.MaxTeams {
		return false
	}
	for _, row := range far {
		if len(row) != len(far) {
			return false
		}
		for _, n := range row {
			if !within(n, 0, api.MaxFar) {
				return false
			}
		}
	}
	return true
}

// validGame returns whether a game is valid in a league.
func validGame(l api.League, g api.Game) bool {
	if !within(g.Day, 0, api.MaxDay) || !isTeam(l, g.Home) || !isTeam(l, g.Away) || g.Home == g.Away {
		return false
	}
	switch g.End {
	case api.Open:
		return true
	case api.Regular, api.Overtime:
		return areGoals(g.HomeGoals) && areGoals(g.AwayGoals) && g.HomeGoals != g.AwayGoals
	}
	return false
}

// areGoals returns whether a number can be the goals of a team in a game.
func areGoals(n int) bool { return within(n, 0, api.MaxGoals) }
