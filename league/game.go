package league

import (
	"iter"

	"icehall/api"
)

// ending is how a game ended, or can end.
type ending int

const (
	homeWins     ending = iota // in the regular time
	homeWinsLate               // in overtime
	awayWinsLate               // in overtime
	awayWins                   // in the regular time
	endings                    // how many there are
)

// worth is the points of the home team and of the away team, by how their game ended.
var worth = [endings][2]int{
	homeWins:     {3, 0},
	homeWinsLate: {2, 1},
	awayWinsLate: {1, 2},
	awayWins:     {0, 3},
}

// isOpen returns whether a game is not played yet.
func isOpen(g api.Game) bool { return g.End == api.Open }

// endingOf returns how a game that is not open ended.
func endingOf(g api.Game) ending {
	home, late := g.HomeGoals > g.AwayGoals, g.End == api.Overtime
	switch {
	case home && late:
		return homeWinsLate
	case home:
		return homeWins
	case late:
		return awayWinsLate
	}
	return awayWins
}

// gamesOf returns the games of a team, in the order of the list.
func gamesOf(l []api.Game, team int) iter.Seq[api.Game] {
	return func(yield func(api.Game) bool) {
		for _, g := range l {
			if (g.Home == team || g.Away == team) && !yield(g) {
				return
			}
		}
	}
}

// plays returns whether a team has one of the games on a day.
func plays(l []api.Game, team, day int) bool {
	for g := range gamesOf(l, team) {
		if g.Day == day {
			return true
		}
	}
	return false
}

// mostToGain returns how many points a team gets if it wins all its open games in the regular time.
func mostToGain(l api.League, team int) int {
	most := 0
	for g := range gamesOf(l.Games, team) {
		if isOpen(g) {
			most += worth[homeWins][0]
		}
	}
	return most
}
