package league

import "icehall/api"

// points is the points of each team.
type points [api.MaxTeams]int

// behind returns the points behind one game more that ended so.
func (p points) behind(g api.Game, end ending) points {
	p[g.Home] += worth[end][0]
	p[g.Away] += worth[end][1]
	return p
}

// and returns these points and others together.
func (p points) and(others points) points {
	for team, n := range others {
		p[team] += n
	}
	return p
}

// earned returns the points of those games that are not open.
func earned(games []api.Game) points {
	var p points
	for _, g := range games {
		if !isOpen(g) {
			p = p.behind(g, endingOf(g))
		}
	}
	return p
}

// outcomes returns what the teams get in the open games: outcomes in which all teams get the same are one.
func outcomes(l api.League) map[points]bool {
	all := map[points]bool{{}: true}
	for _, g := range l.Games {
		if !isOpen(g) {
			continue
		}
		behind := map[points]bool{}
		for p := range all {
			for end := range endings {
				behind[p.behind(g, end)] = true
			}
		}
		all = behind
	}
	return all
}

// aim is a team that aims at the first places of so many teams.
type aim struct{ teams, team, places int }

// aimOf returns the aim of a team of a league, or what is wrong with it.
func aimOf(l api.League, team, places int) (aim, api.Errno) {
	if !validLeague(l) {
		return aim{}, api.ErrArg
	}
	if !isTeam(l, team) || !within(places, 1, len(l.Far)) {
		return aim{}, api.ErrRange
	}
	return aim{teams: len(l.Far), team: team, places: places}, api.OK
}

// isIn returns whether the team is in its places with these points.
func (a aim) isIn(p points) bool { return a.others(p, 0) < a.places }

// isOut returns whether the team is out of its places with these points: with the same points as another one it is neither in nor out.
func (a aim) isOut(p points) bool { return a.others(p, 1) >= a.places }

// others returns how many other teams have at least so many points more than the team.
func (a aim) others(p points, more int) int {
	others := 0
	for other := range a.teams {
		if other != a.team && p[other] >= p[a.team]+more {
			others++
		}
	}
	return others
}
