package league_test

import (
	"math/rand"
	"reflect"
	"slices"
	"testing"

	"icehall/api"
	"icehall/league"
)

// errors returns the errors of all functions for a league, for the team 0 and one place.
func errors(l api.League) []api.Errno {
	_, check := league.Check(l)
	_, travel := league.Travel(l, 0)
	_, table := league.Table(l)
	_, _, clinched := league.Clinched(l, 0, 1)
	_, needs := league.Needs(l, 0, 1)
	return []api.Errno{check, travel, table, clinched, needs}
}

// P10.1 to P10.5: ErrArg unless the league is valid, from each function.
func TestNotValid(t *testing.T) {
	for name, change := range map[string]func(l *api.League){
		"seven teams":                 func(l *api.League) { l.Far = near(api.MaxTeams + 1) },
		"no teams, but games":         func(l *api.League) { l.Far = nil },
		"a row less":                  func(l *api.League) { l.Far = l.Far[:2] },
		"a short row":                 func(l *api.League) { l.Far[1] = l.Far[1][:2] },
		"a long row":                  func(l *api.League) { l.Far[2] = append(l.Far[2], 0) },
		"no row":                      func(l *api.League) { l.Far[0] = nil },
		"too far":                     func(l *api.League) { l.Far[2][0] = api.MaxFar + 1 },
		"too far from itself":         func(l *api.League) { l.Far[1][1] = api.MaxFar + 1 },
		"not as far as zero":          func(l *api.League) { l.Far[0][2] = -1 },
		"65 games":                    func(l *api.League) { l.Games = append(l.Games, slices.Repeat(l.Games[:1], api.MaxGames-4)...) },
		"nine open games":             func(l *api.League) { l.Games = append(l.Games, slices.Repeat(l.Games[3:4], api.MaxOpen-1)...) },
		"the day -1":                  func(l *api.League) { l.Games[0].Day = -1 },
		"the day behind the last":     func(l *api.League) { l.Games[2].Day = api.MaxDay + 1 },
		"no day of an open game":      func(l *api.League) { l.Games[4].Day = api.MaxDay + 1 },
		"a home team below":           func(l *api.League) { l.Games[0].Home = -1 },
		"a home team beyond":          func(l *api.League) { l.Games[0].Home = 3 },
		"an away team below":          func(l *api.League) { l.Games[0].Away = -1 },
		"an away team beyond":         func(l *api.League) { l.Games[0].Away = 3 },
		"against itself":              func(l *api.League) { l.Games[1].Away = 1 },
		"an open game against itself": func(l *api.League) { l.Games[3].Away = 0 },
		"an open game of nobody":      func(l *api.League) { l.Games[3].Away = 3 },
		"the end -1":                  func(l *api.League) { l.Games[0].End = -1 },
		"the end 3":                   func(l *api.League) { l.Games[0].End = 3 },
		"home goals below":            func(l *api.League) { l.Games[0].HomeGoals = -1 },
		"home goals beyond":           func(l *api.League) { l.Games[1].HomeGoals = api.MaxGoals + 1 },
		"away goals below":            func(l *api.League) { l.Games[1].AwayGoals = -1 },
		"away goals beyond":           func(l *api.League) { l.Games[0].AwayGoals = api.MaxGoals + 1 },
		"as many goals":               func(l *api.League) { l.Games[0].AwayGoals = 3 },
		"as many goals in overtime":   func(l *api.League) { l.Games[1].AwayGoals = 2 },
		"no goals":                    func(l *api.League) { l.Games[1].HomeGoals, l.Games[1].AwayGoals = 0, 0 },
	} {
		l := example()
		change(&l)
		for i, e := range errors(l) {
			if e != api.ErrArg {
				t.Errorf("%s: function %d has the error %d", name, i, e)
			}
		}
		for _, n := range odd {
			if n, e := league.Travel(l, n); n != 0 || e != api.ErrArg {
				t.Errorf("%s: %d, error %d", name, n, e)
			}
		}
	}
}

// R7, R8: what is at the end of its range is valid, and the goals of an open game are not looked at.
func TestJustValid(t *testing.T) {
	for name, change := range map[string]func(l *api.League){
		"six teams":           func(l *api.League) { l.Far = near(api.MaxTeams) },
		"far and near":        func(l *api.League) { l.Far[0] = []int{api.MaxFar, 0, api.MaxFar} },
		"the last team":       func(l *api.League) { l.Games[0].Home, l.Games[0].Away = 2, 0 },
		"the first day":       func(l *api.League) { l.Games[0].Day = 0 },
		"the last day":        func(l *api.League) { l.Games[4].Day = api.MaxDay },
		"many goals and none": func(l *api.League) { l.Games[0].HomeGoals, l.Games[0].AwayGoals = api.MaxGoals, 0 },
		"none and many goals": func(l *api.League) { l.Games[1].HomeGoals, l.Games[1].AwayGoals = 0, api.MaxGoals },
		"open, with goals":    func(l *api.League) { l.Games[3].HomeGoals, l.Games[3].AwayGoals = -7, api.MaxGoals+1 },
		"no games":            func(l *api.League) { l.Games = nil },
	} {
		l := example()
		change(&l)
		e := errors(l)
		if !slices.Equal(e[:4], make([]api.Errno, 4)) || e[4] != api.OK && e[4] != api.ErrNone {
			t.Errorf("%s: %v", name, e)
		}
	}
}

// P1, R7: as many games, of which as many are open, as there can be.
func TestLongest(t *testing.T) {
	rnd := rand.New(rand.NewSource(1012))
	l := of(api.MaxTeams)
	for i := range api.MaxGames {
		g := anyGame(rnd, api.MaxTeams, 5)
		if i%8 == 0 {
			g.End = api.Open
		}
		g.Day = i
		l.Games = append(l.Games, g)
	}
	if n, e := league.Check(l); n != api.MaxGames || e != api.OK {
		t.Error(n, e)
	}
	if table := mustTable(t, l); !slices.Equal(table, tableBy(l)) {
		t.Error(table)
	}
	for team := range l.Far {
		for places := 1; places <= len(l.Far); places++ {
			in, out := mustClinch(t, l, team, places)
			if n, e := league.Needs(l, team, places); in != (n == 0 && e == api.OK) || out && e != api.ErrNone {
				t.Error(team, places, in, out, n, e)
			}
		}
	}
}

// P10.6, R4: no argument is changed, nor what lies behind its lists.
func TestArgumentsStay(t *testing.T) {
	rnd := rand.New(rand.NewSource(1013))
	for range 300 {
		l := anyLeague(rnd, 12, 4)
		l.Games = append(l.Games, anyGame(rnd, len(l.Far), 5), anyGame(rnd, len(l.Far), 5))
		given := cloneLeague(l)
		short := l
		short.Games = l.Games[:len(l.Games)-2]
		for _, x := range []api.League{l, short} {
			errors(x)
			for team := range x.Far {
				league.Travel(x, team)
				league.Clinched(x, team, 2)
				league.Needs(x, team, 2)
			}
		}
		if !reflect.DeepEqual(l, given) {
			t.Fatal("an argument was changed", l, given)
		}
	}
}

// P10.6, R4: a table is new memory: a change of one is seen in no other one.
func TestResultsAreNew(t *testing.T) {
	l := example()
	want := tableBy(l)
	one, other := mustTable(t, l), mustTable(t, l)
	clear(one[:cap(one)])
	if !slices.Equal(other, want) || !slices.Equal(mustTable(t, l), want) {
		t.Error("a result shares memory", other)
	}
}

// R3: nil and empty lists are the same.
func TestNilAndEmpty(t *testing.T) {
	for _, l := range []api.League{{}, {Far: [][]int{}}, {Games: []api.Game{}}, {Far: [][]int{}, Games: []api.Game{}}} {
		if n, e := league.Check(l); n != 0 || e != api.OK {
			t.Error(n, e)
		}
		if table, e := league.Table(l); len(table) > 0 || e != api.OK {
			t.Error(table, e)
		}
		if n, e := league.Travel(l, 0); n != 0 || e != api.ErrRange {
			t.Error(n, e)
		}
	}
	for _, games := range [][]api.Game{nil, {}} {
		l := of(2, games...)
		if table := mustTable(t, l); !slices.Equal(table, []api.Standing{{Team: 0}, {Team: 1}}) {
			t.Error(table)
		}
		certain(t, l, 0, 1, false, false, fault)
		certain(t, l, 1, 2, true, false, 0)
	}
}

// P11: the same call returns the same, whatever was called before.
func TestAgain(t *testing.T) {
	rnd := rand.New(rand.NewSource(1014))
	for range 100 {
		errors(anyLeague(rnd, 12, 6))
		if n, e := league.Travel(example(), 2); n != 50 || e != api.OK {
			t.Fatal(n, e)
		}
		if teams := order(mustTable(t, example())); !slices.Equal(teams, []int{2, 0, 1}) {
			t.Fatal(teams)
		}
		certain(t, example(), 0, 1, false, false, 4)
		certain(t, example(), 2, 2, false, false, 2)
	}
}

// P1, R2: whatever is given, each function ends without a panic, and returns nothing with an error but the index of a game.
func TestAnyArguments(t *testing.T) {
	rnd := rand.New(rand.NewSource(1015))
	number := func() int { return odd[rnd.Intn(len(odd))] }
	seen := map[api.Errno]int{}
	for range 20000 {
		l := anyLeague(rnd, 4, 2)
		for rnd.Intn(4) == 0 {
			l.Games = append(l.Games, api.Game{Day: number(), Home: number(), Away: number(), End: number(), HomeGoals: number(), AwayGoals: number()})
		}
		if rnd.Intn(4) == 0 {
			row := rnd.Intn(len(l.Far))
			l.Far[row] = append(l.Far[row][:rnd.Intn(len(l.Far[row]))], number())
		}
		n, e := league.Check(l)
		seen[e]++
		if e == api.ErrArg && n != 0 || e == api.OK && n != len(l.Games) || (e == api.ErrOrder || e == api.ErrTwice) && (n < 1 || n >= len(l.Games)) {
			t.Fatal("Check", l, n, e)
		}
		if n, e := league.Travel(l, number()); e != api.OK && n != 0 || n < 0 {
			t.Fatal("Travel", l, n, e)
		}
		if table, e := league.Table(l); e != api.OK && len(table) > 0 || e == api.OK && len(table) != len(l.Far) {
			t.Fatal("Table", l, table, e)
		}
		if in, out, e := league.Clinched(l, number(), number()); e != api.OK && (in || out) || in && out {
			t.Fatal("Clinched", l, in, out, e)
		}
		n, e = league.Needs(l, number(), number())
		seen[e]++
		if e != api.OK && n != 0 || n < 0 || n > 3*api.MaxOpen {
			t.Fatal("Needs", l, n, e)
		}
	}
	for _, e := range []api.Errno{api.OK, api.ErrArg, api.ErrRange, api.ErrNone, api.ErrOrder, api.ErrTwice} {
		if seen[e] < 200 {
			t.Errorf("error %d was seen only %d times", e, seen[e])
		}
	}
}
