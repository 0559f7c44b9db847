package league_test

import (
	"math/rand"
	"slices"
	"testing"

	"icehall/api"
	"icehall/league"
)

// order returns the teams of a table.
func order(table []api.Standing) []int {
	var teams []int
	for _, s := range table {
		teams = append(teams, s.Team)
	}
	return teams
}

// P10.3: the example of the document.
func TestTableExample(t *testing.T) {
	want := []api.Standing{{Team: 2, Games: 2, Points: 4, For: 5, Against: 4}, {Team: 0, Games: 2, Points: 3, For: 5, Against: 5}, {Team: 1, Games: 2, Points: 2, For: 3, Against: 4}}
	if table := mustTable(t, example()); !slices.Equal(table, want) {
		t.Error(table)
	}
}

// P10.3: the points of the four ways in which a game can end.
func TestPoints(t *testing.T) {
	for _, c := range []struct {
		game       api.Game
		home, away int
	}{{regular(1, 0, 1, 2, 1), 3, 0}, {late(1, 0, 1, 2, 1), 2, 1}, {late(1, 0, 1, 1, 2), 1, 2}, {regular(1, 0, 1, 1, 2), 0, 3}} {
		home := api.Standing{Team: 0, Games: 1, Points: c.home, For: c.game.HomeGoals, Against: c.game.AwayGoals}
		away := api.Standing{Team: 1, Games: 1, Points: c.away, For: c.game.AwayGoals, Against: c.game.HomeGoals}
		table := mustTable(t, of(2, c.game))
		if table[place(table, 0)-1] != home || table[place(table, 1)-1] != away || table[0].Points < table[1].Points {
			t.Error(c.game, table)
		}
	}
}

// P10.3: of two teams with the same, the next rule tells who is ahead.
func TestTableRules(t *testing.T) {
	for name, c := range map[string]struct {
		games []api.Game
		want  []int
	}{
		"no games: the index":                     {nil, []int{0, 1, 2, 3, 4, 5}},
		"points are ahead of goals":               {[]api.Game{regular(1, 5, 0, 1, 0), late(2, 4, 1, 9, 0)}, []int{5, 4, 1, 2, 3, 0}},
		"the game of both is ahead of goals":      {[]api.Game{regular(1, 1, 0, 1, 0), regular(2, 0, 2, 9, 0)}, []int{1, 0, 3, 4, 5, 2}},
		"in overtime, too":                        {[]api.Game{late(1, 1, 0, 1, 0), late(2, 2, 1, 9, 0), late(3, 0, 2, 1, 0), regular(4, 0, 3, 9, 0)}, []int{0, 2, 1, 4, 5, 3}},
		"what is scored less what is let in":      {[]api.Game{regular(1, 0, 1, 5, 4), regular(2, 2, 3, 2, 0)}, []int{2, 0, 4, 5, 1, 3}},
		"then what is scored":                     {[]api.Game{regular(1, 0, 1, 2, 1), regular(2, 2, 3, 5, 4)}, []int{2, 0, 4, 5, 3, 1}},
		"then the index":                          {[]api.Game{regular(1, 2, 3, 2, 1), regular(2, 0, 1, 2, 1)}, []int{0, 2, 4, 5, 1, 3}},
		"the goals of all games count":            {[]api.Game{late(1, 0, 1, 1, 0), late(2, 1, 0, 1, 0), regular(3, 1, 2, 7, 0), regular(4, 0, 3, 2, 0)}, []int{1, 0, 4, 5, 3, 2}},
		"open games count for nothing":            {[]api.Game{regular(1, 0, 1, 1, 0), {Day: 2, Home: 5, Away: 4, HomeGoals: 9, AwayGoals: 1}}, []int{0, 2, 3, 4, 5, 1}},
		"games with a team of more points do not": {[]api.Game{regular(1, 0, 2, 1, 0), regular(2, 2, 3, 1, 0), regular(3, 3, 0, 8, 0), regular(4, 0, 1, 1, 0), late(5, 1, 4, 1, 0), late(6, 1, 4, 1, 0)}, []int{0, 1, 2, 3, 4, 5}},
		"three among each other, by their points": {[]api.Game{regular(1, 0, 1, 1, 0), late(2, 2, 0, 1, 0), regular(3, 1, 3, 1, 0), late(4, 1, 3, 1, 0), regular(5, 2, 4, 1, 0), regular(6, 0, 5, 1, 0), regular(7, 4, 0, 1, 0)}, []int{0, 2, 1, 4, 3, 5}},
		"two of three with the same among all are not told apart by their own game": {[]api.Game{regular(1, 0, 1, 1, 0), regular(2, 1, 2, 5, 0), regular(3, 2, 0, 1, 0)}, []int{1, 0, 2, 3, 4, 5}},
	} {
		l := of(6, c.games...)
		if got, want := order(mustTable(t, l)), order(tableBy(l)); !slices.Equal(got, c.want) || !slices.Equal(want, c.want) {
			t.Errorf("%s: %v, by words %v, not %v", name, got, want, c.want)
		}
	}
}

// P10.3: random tables, by each of the rules.
func TestTableByWords(t *testing.T) {
	rnd := rand.New(rand.NewSource(1003))
	seen := make([]int, len(why))
	for range 6000 {
		l := anyLeague(rnd, 9, 4)
		table := mustTable(t, l)
		if want := tableBy(l); !slices.Equal(table, want) {
			t.Fatalf("%v: %v, not %v", l, table, want)
		}
		for i := range len(table) - 1 {
			_, rule := aheadBy(l, table[i].Team, table[i+1].Team)
			seen[rule]++
		}
	}
	for rule, n := range seen {
		if n < 200 {
			t.Errorf("%s told only %d times who is ahead", why[rule], n)
		}
	}
}

// P10.3: no teams, one team, and leagues that are not valid.
func TestTableEdges(t *testing.T) {
	if table, e := league.Table(api.League{}); len(table) > 0 || e != api.OK {
		t.Error(table, e)
	}
	if table := mustTable(t, of(1)); table[0] != (api.Standing{}) {
		t.Error(table)
	}
	if table, e := league.Table(of(2, regular(1, 0, 1, 2, 2))); len(table) > 0 || e != api.ErrArg {
		t.Error(table, e)
	}
	l := of(6)
	for range api.MaxGames {
		l.Games = append(l.Games, regular(api.MaxDay, 4, 5, api.MaxGoals, 0))
	}
	if table := mustTable(t, l); table[0] != (api.Standing{Team: 4, Games: 64, Points: 192, For: 64 * 99}) || table[5] != (api.Standing{Team: 5, Games: 64, Against: 64 * 99}) {
		t.Error(table)
	}
}
