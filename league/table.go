package league

import (
	"cmp"
	"slices"

	"icehall/api"
)

// row is a row of the table, and the points of its team in the games among all teams that have as many points as it has.
type row struct {
	api.Standing
	among int
}

// add adds a game of the team that is not open, but not its points.
func (r *row) add(g api.Game) {
	goals, against := g.HomeGoals, g.AwayGoals
	if g.Away == r.Team {
		goals, against = against, goals
	}
	r.Games++
	r.For += goals
	r.Against += against
}

// rows returns the rows of all teams, in the order of the teams.
func rows(l api.League) []row {
	all := earned(l.Games)
	among := earned(amongSame(l.Games, all))
	var table []row
	for team := range l.Far {
		r := row{Standing: api.Standing{Team: team, Points: all[team]}, among: among[team]}
		for g := range gamesOf(l.Games, team) {
			if !isOpen(g) {
				r.add(g)
			}
		}
		table = append(table, r)
	}
	return table
}

// amongSame returns the games of two teams with the same points.
func amongSame(games []api.Game, p points) []api.Game {
	differ := func(g api.Game) bool { return p[g.Home] != p[g.Away] }
	return slices.DeleteFunc(slices.Clone(games), differ)
}

// order compares two: below 0, if the first one is ahead.
type order[T any] func(a, b T) int

// ahead returns the order of the table.
func ahead() order[row] {
	return inTurn(
		more(func(r row) int { return r.Points }),
		more(func(r row) int { return r.among }),
		more(func(r row) int { return r.For - r.Against }),
		more(func(r row) int { return r.For }),
		more(func(r row) int { return -r.Team }),
	)
}

// more returns the order in which the one with more is ahead.
func more[T any](of func(T) int) order[T] {
	return func(a, b T) int { return cmp.Compare(of(b), of(a)) }
}

// inTurn returns the order by the first of several orders that tells two apart.
func inTurn[T any](orders ...order[T]) order[T] {
	return func(a, b T) int {
		for _, compare := range orders {
			if n := compare(a, b); n != 0 {
				return n
			}
		}
		return 0
	}
}

// sorted returns a list in an order.
func sorted[T any](l []T, by order[T]) []T {
	s := slices.Clone(l)
	slices.SortFunc(s, by)
	return s
}
