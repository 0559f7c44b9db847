package league_test

import (
	"math"
	"math/rand"
	"slices"
	"testing"

	"icehall/api"
	"icehall/league"
)

// odd is numbers that no range of the chapter contains, or that are at the end of one.
var odd = []int{math.MinInt, -1, 0, 1, 2, 3, 4, 5, 6, 7, api.MaxGoals, api.MaxGoals + 1, api.MaxDay, api.MaxDay + 1, api.MaxFar, api.MaxFar + 1, math.MaxInt}

// regular returns a game that ended in the regular time.
func regular(day, home, away, goals, against int) api.Game {
	return api.Game{Day: day, Home: home, Away: away, End: api.Regular, HomeGoals: goals, AwayGoals: against}
}

// late returns a game that ended in overtime.
func late(day, home, away, goals, against int) api.Game {
	return api.Game{Day: day, Home: home, Away: away, End: api.Overtime, HomeGoals: goals, AwayGoals: against}
}

// open returns a game that is not played yet.
func open(day, home, away int) api.Game { return api.Game{Day: day, Home: home, Away: away} }

// example returns the league of the document's examples.
func example() api.League {
	return api.League{
		Far:   [][]int{{0, 10, 20}, {10, 0, 5}, {20, 5, 0}},
		Games: []api.Game{regular(1, 0, 1, 3, 1), late(2, 1, 2, 2, 1), regular(4, 2, 0, 4, 2), open(6, 0, 2), open(8, 1, 0)},
	}
}

// near returns halls of so many teams that are all in one place.
func near(teams int) [][]int {
	far := make([][]int, teams)
	for i := range far {
		far[i] = make([]int, teams)
	}
	return far
}

// of returns a league of so many teams that are all in one place.
func of(teams int, games ...api.Game) api.League { return api.League{Far: near(teams), Games: games} }

// cloneLeague returns the same league in memory of its own.
func cloneLeague(l api.League) api.League {
	c := api.League{Games: slices.Clone(l.Games)}
	for _, row := range l.Far {
		c.Far = append(c.Far, slices.Clone(row))
	}
	return c
}

// place returns the place of a team in a table, from 1 on.
func place(table []api.Standing, team int) int {
	return 1 + slices.IndexFunc(table, func(s api.Standing) bool { return s.Team == team })
}

func mustTable(t *testing.T, l api.League) []api.Standing {
	t.Helper()
	table, e := league.Table(l)
	if e != api.OK || len(table) != len(l.Far) {
		t.Fatalf("Table(%v) = %v, error %d", l, table, e)
	}
	return table
}

func mustClinch(t *testing.T, l api.League, team, places int) (in, out bool) {
	t.Helper()
	in, out, e := league.Clinched(l, team, places)
	if e != api.OK {
		t.Fatalf("Clinched(%v, %d, %d): error %d", l, team, places, e)
	}
	return in, out
}

// openGames returns the places of the open games in the list; of all teams, or of a team.
func openGames(l api.League, team int) []int {
	var places []int
	for i, g := range l.Games {
		if g.End == api.Open && (team < 0 || g.Home == team || g.Away == team) {
			places = append(places, i)
		}
	}
	return places
}

// all is in the place of a team, if all teams are meant.
const all = -1

// anyGame returns a random game of two of so many teams that ended.
func anyGame(rnd *rand.Rand, teams, goals int) api.Game {
	g := api.Game{Day: rnd.Intn(20), Home: rnd.Intn(teams), End: api.Regular + rnd.Intn(2)}
	g.Away = (g.Home + 1 + rnd.Intn(teams-1)) % teams
	for g.HomeGoals == g.AwayGoals {
		g.HomeGoals, g.AwayGoals = rnd.Intn(goals), rnd.Intn(goals)
	}
	return g
}

// anyLeague returns a random league of two teams or more, with few goals, so that teams often have the same of all.
func anyLeague(rnd *rand.Rand, games, opens int) api.League {
	teams := 2 + rnd.Intn(api.MaxTeams-1)
	l := of(teams)
	for i := range l.Far {
		for k := range l.Far[i] {
			l.Far[i][k] = rnd.Intn(30)
		}
	}
	for range rnd.Intn(games + 1) {
		l.Games = append(l.Games, anyGame(rnd, teams, 2+rnd.Intn(4)))
	}
	for range rnd.Intn(opens + 1) {
		g := anyGame(rnd, teams, 4)
		g.End = api.Open
		l.Games = append(l.Games, g)
	}
	rnd.Shuffle(len(l.Games), func(i, k int) { l.Games[i], l.Games[k] = l.Games[k], l.Games[i] })
	return l
}

// decide returns the league in which a game ended in one of the four ways, with few goals.
func decide(rnd *rand.Rand, l api.League, game, way int) api.League {
	c := cloneLeague(l)
	g := &c.Games[game]
	g.End = api.Regular + way%2
	g.HomeGoals = rnd.Intn(3)
	g.AwayGoals = g.HomeGoals + 1 + rnd.Intn(2)
	if way < 2 {
		g.HomeGoals, g.AwayGoals = g.AwayGoals, g.HomeGoals
	}
	return c
}

// decideAll returns the league in which all those open games ended somehow.
func decideAll(rnd *rand.Rand, l api.League, games []int) api.League {
	for _, game := range games {
		l = decide(rnd, l, game, rnd.Intn(4))
	}
	return l
}

// pointsBy returns the points of a team from a game, by the words of the document.
func pointsBy(g api.Game, team int) int {
	won := g.Home == team && g.HomeGoals > g.AwayGoals || g.Away == team && g.AwayGoals > g.HomeGoals
	switch {
	case g.End == api.Open || g.Home != team && g.Away != team:
		return 0
	case g.End == api.Regular && won:
		return 3
	case g.End == api.Overtime && won:
		return 2
	case g.End == api.Overtime:
		return 1
	}
	return 0
}

// sumBy returns the points of a team from all games.
func sumBy(games []api.Game, team int) int {
	sum := 0
	for _, g := range games {
		sum += pointsBy(g, team)
	}
	return sum
}

// standingBy returns the standing of a team, by the words of the document.
func standingBy(l api.League, team int) api.Standing {
	s := api.Standing{Team: team, Points: sumBy(l.Games, team)}
	for _, g := range l.Games {
		if g.End == api.Open {
			continue
		}
		if g.Home == team {
			s.Games, s.For, s.Against = s.Games+1, s.For+g.HomeGoals, s.Against+g.AwayGoals
		}
		if g.Away == team {
			s.Games, s.For, s.Against = s.Games+1, s.For+g.AwayGoals, s.Against+g.HomeGoals
		}
	}
	return s
}

// amongBy returns the points of a team in the games among all teams that have as many points as it has.
func amongBy(l api.League, team int) int {
	sum := 0
	for _, g := range l.Games {
		if sumBy(l.Games, g.Home) == sumBy(l.Games, team) && sumBy(l.Games, g.Away) == sumBy(l.Games, team) {
			sum += pointsBy(g, team)
		}
	}
	return sum
}

// why tells by what a team is ahead of another one: points, points among those with the same, difference of the goals, goals, or index.
var why = []string{"points", "among", "difference", "goals", "index"}

// aheadBy returns whether a team is ahead of another one in the table, and by which of the rules.
func aheadBy(l api.League, a, b int) (ahead bool, rule int) {
	x, y := standingBy(l, a), standingBy(l, b)
	one := []int{x.Points, amongBy(l, a), x.For - x.Against, x.For, -a}
	other := []int{y.Points, amongBy(l, b), y.For - y.Against, y.For, -b}
	for rule := range one {
		if one[rule] != other[rule] {
			return one[rule] > other[rule], rule
		}
	}
	return false, len(one)
}

// tableBy returns the table: each team has as many teams ahead of it in the list as are ahead of it in the league.
func tableBy(l api.League) []api.Standing {
	table := make([]api.Standing, len(l.Far))
	for team := range l.Far {
		place := 0
		for other := range l.Far {
			if ahead, _ := aheadBy(l, other, team); ahead {
				place++
			}
		}
		table[place] = standingBy(l, team)
	}
	return table
}

// checkBy returns what Check does, by the words of the document.
func checkBy(l api.League) (int, api.Errno) {
	for i, g := range l.Games {
		if i > 0 && g.Day < l.Games[i-1].Day {
			return i, api.ErrOrder
		}
		for _, o := range l.Games[:i] {
			if o.Day == g.Day && (o.Home == g.Home || o.Home == g.Away || o.Away == g.Home || o.Away == g.Away) {
				return i, api.ErrTwice
			}
		}
	}
	return len(l.Games), api.OK
}

// travelBy returns the length of a way, from the list of its halls.
func travelBy(l api.League, team int) int {
	halls := []int{team}
	for _, g := range l.Games {
		if g.Home == team || g.Away == team {
			halls = append(halls, g.Home)
		}
	}
	halls = append(halls, team)
	sum := 0
	for i := range len(halls) - 1 {
		sum += l.Far[halls[i]][halls[i+1]]
	}
	return sum
}

// outcomesBy calls with each outcome of a league, one by one: digits to the base 4 tell how the open games end.
func outcomesBy(l api.League, call func(end api.League)) {
	opens := openGames(l, all)
	for code := range 1 << (2 * len(opens)) {
		end := api.League{Far: l.Far, Games: slices.Clone(l.Games)}
		for i, game := range opens {
			way := code >> (2 * i) & 3
			g := &end.Games[game]
			g.End, g.HomeGoals, g.AwayGoals = api.Regular+way%2, way/2, 1-way/2
		}
		call(end)
	}
}

// count returns how many other teams have at least so many points more than a team.
func count(l api.League, team, more int) int {
	others := 0
	for other := range l.Far {
		if other != team && sumBy(l.Games, other)-sumBy(l.Games, team) >= more {
			others++
		}
	}
	return others
}

// certainBy returns what Clinched does for each number of places, by the words of the document, and what Needs does (-1, if there is no such number).
func certainBy(l api.League, team int) (in, out []bool, needs []int) {
	teams, opens := len(l.Far), openGames(l, team)
	in, out = slices.Repeat([]bool{true}, teams), slices.Repeat([]bool{true}, teams)
	enough := make([][]bool, teams)
	for i := range enough {
		enough[i] = slices.Repeat([]bool{true}, 3*len(opens)+1)
	}
	outcomesBy(l, func(end api.League) {
		got := sumBy(end.Games, team) - sumBy(l.Games, team)
		asMany, more := count(end, team, 0), count(end, team, 1)
		for i := range teams {
			in[i] = in[i] && asMany < i+1
			out[i] = out[i] && more >= i+1
			for need := range enough[i] {
				if got >= need && asMany >= i+1 {
					enough[i][need] = false
				}
			}
		}
	})
	for i := range teams {
		needs = append(needs, slices.Index(enough[i], true))
	}
	return in, out, needs
}
