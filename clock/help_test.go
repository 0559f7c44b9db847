package clock_test

import (
	"math"
	"math/rand"
	"slices"
	"testing"

	"icehall/api"
	"icehall/clock"
)

// odd is numbers that no range of the chapter contains, or that are at the end of one.
var odd = []int{math.MinInt, -1, 0, 1, 2, 3, 6, 7, 299, 300, 301, api.MaxPerson, api.MaxPerson + 1, api.MaxSeconds, api.MaxSeconds + 1, math.MaxInt}

// given is the kinds of penalties, with misconducts.
var given = []int{api.ClockMinor, api.ClockDouble, api.ClockMajor, api.ClockMisconduct}

func start(second int) api.ClockEvent { return api.ClockEvent{Kind: api.ClockStart, Second: second} }

func stop(second int) api.ClockEvent { return api.ClockEvent{Kind: api.ClockStop, Second: second} }

func goal(second, team int) api.ClockEvent {
	return api.ClockEvent{Kind: api.ClockGoal, Second: second, Team: team}
}

func give(kind, second, team, player int) api.ClockEvent {
	return api.ClockEvent{Kind: kind, Second: second, Team: team, Player: player}
}

func minor(player, left int) api.Penalty {
	return api.Penalty{Player: player, Kind: api.ClockMinor, Left: left}
}

func major(player, left int) api.Penalty {
	return api.Penalty{Player: player, Kind: api.ClockMajor, Left: left}
}

func misconduct(player, left int) api.Penalty {
	return api.Penalty{Player: player, Kind: api.ClockMisconduct, Left: left}
}

// penalties returns lists of penalties of both teams.
func penalties(zero, one []api.Penalty) [2][]api.Penalty { return [2][]api.Penalty{zero, one} }

// example returns the events of the document's examples.
func example() []api.ClockEvent {
	return []api.ClockEvent{
		start(100), stop(130),
		give(api.ClockMinor, 140, 0, 7), give(api.ClockMinor, 140, 0, 9), give(api.ClockMinor, 140, 0, 8),
		start(150), goal(200, 1), start(210), stop(260),
	}
}

// wholeGame returns three starts, with which all periods are played through; the last one is over at 3600.
func wholeGame() []api.ClockEvent { return []api.ClockEvent{start(0), start(1200), start(2400)} }

// same returns whether two boards are the same.
func same(a, b api.Board) bool {
	for team := range 2 {
		if !slices.Equal(a.Penalties[team], b.Penalties[team]) || !slices.Equal(a.Misconducts[team], b.Misconducts[team]) {
			return false
		}
	}
	return a.Period == b.Period && a.Played == b.Played && a.Runs == b.Runs && a.Goals == b.Goals
}

// cloneBoard returns the same board in memory of its own.
func cloneBoard(b api.Board) api.Board {
	for team := range 2 {
		b.Penalties[team] = slices.Clone(b.Penalties[team])
		b.Misconducts[team] = slices.Clone(b.Misconducts[team])
	}
	return b
}

// mustPlay plays events that can be.
func mustPlay(t *testing.T, l []api.ClockEvent) api.Board {
	t.Helper()
	b, n, e := clock.Play(l)
	if n != len(l) || e != api.OK {
		t.Fatalf("Play(%v): index %d, error %d", l, n, e)
	}
	return b
}

// mustSee returns the board in a second that can be.
func mustSee(t *testing.T, l []api.ClockEvent, second int) api.Board {
	t.Helper()
	b, e := clock.At(l, second)
	if e != api.OK {
		t.Fatalf("At(%v, %d): error %d", l, second, e)
	}
	return b
}

// mustHave returns the strengths until a second that can be.
func mustHave(t *testing.T, l []api.ClockEvent, second int) []api.Strength {
	t.Helper()
	s, e := clock.Strengths(l, second)
	if e != api.OK {
		t.Fatalf("Strengths(%v, %d): error %d", l, second, e)
	}
	return s
}

// mustWait returns after how many seconds a team of a valid board is whole.
func mustWait(t *testing.T, b api.Board, team int) int {
	t.Helper()
	n, e := clock.Whole(b, team)
	if e != api.OK {
		t.Fatalf("Whole(%v, %d): error %d", b, team, e)
	}
	return n
}

// record is a penalty with its history: what was given, how much of it was served, and whether a goal ended it.
type record struct {
	team, player, kind, length, served int
	ended                              bool
}

// on returns whether something is left.
func (r record) on() bool { return !r.ended && r.served < r.length }

// model is a game told once more, as the document words it: second by second, with the records of all penalties.
type model struct {
	second, period, played int
	runs                   bool
	goals                  [2]int
	records                []record
	strengths              [][2]int // in each second of the game
	stopped                int      // how many goals ended a penalty
}

// served returns which records are the penalties of a team that are served.
func (m *model) served(team int) []int {
	var l []int
	for i, r := range m.records {
		if r.team != team || r.kind == api.ClockMisconduct || !r.on() {
			continue
		}
		if len(l) == 0 || len(l) == 1 && r.player != m.records[l[0]].player {
			l = append(l, i)
		}
	}
	return l
}

// tick lets a second pass in which the clock runs.
func (m *model) tick() {
	m.second++
	zero, one := m.served(0), m.served(1)
	m.strengths = append(m.strengths, [2]int{5 - len(zero), 5 - len(one)})
	for i := range m.records {
		if m.records[i].on() && (m.records[i].kind == api.ClockMisconduct || slices.Contains(zero, i) || slices.Contains(one, i)) {
			m.records[i].served++
		}
	}
	if m.played++; m.played == 1200 {
		m.runs = false
	}
}

// wait lets time pass up to a second.
func (m *model) wait(second int) {
	for m.runs && m.second < second {
		m.tick()
	}
	m.second = second
}

// fault returns the error of an event, ahead of which all seconds have passed.
func (m *model) fault(v api.ClockEvent) api.Errno {
	switch v.Kind {
	case api.ClockStart:
		if m.runs {
			return api.ErrState
		}
		if m.period == 2 && m.played == 1200 {
			return api.ErrFull
		}
	case api.ClockStop, api.ClockGoal:
		if !m.runs {
			return api.ErrState
		}
	default:
		if m.runs {
			return api.ErrState
		}
	}
	return api.OK
}

// happen lets a valid event happen.
func (m *model) happen(v api.ClockEvent) api.Errno {
	if v.Second < m.second {
		return api.ErrOrder
	}
	m.wait(v.Second)
	if e := m.fault(v); e != api.OK {
		return e
	}
	note := func(kind, length int) {
		m.records = append(m.records, record{team: v.Team, player: v.Player, kind: kind, length: length})
	}
	switch v.Kind {
	case api.ClockStart:
		m.runs = true
		if m.played == 1200 {
			m.period, m.played = m.period+1, 0
		}
	case api.ClockStop:
		m.runs = false
	case api.ClockGoal:
		m.runs = false
		m.goals[v.Team]++
		m.end(v.Team)
	case api.ClockMinor:
		note(api.ClockMinor, 120)
	case api.ClockDouble:
		note(api.ClockMinor, 120)
		note(api.ClockMinor, 120)
	case api.ClockMajor:
		note(api.ClockMajor, 300)
	case api.ClockMisconduct:
		note(api.ClockMisconduct, 600)
	}
	return api.OK
}

// end ends the penalty that a goal of a team ends.
func (m *model) end(team int) {
	others := m.served(1 - team)
	if len(others) <= len(m.served(team)) {
		return
	}
	for _, i := range others {
		if m.records[i].kind == api.ClockMinor {
			m.records[i].ended = true
			m.stopped++
			return
		}
	}
}

// board returns what is shown.
func (m *model) board() api.Board {
	b := api.Board{Period: m.period, Played: m.played, Runs: m.runs, Goals: m.goals}
	for _, r := range m.records {
		if !r.on() {
			continue
		}
		l := &b.Penalties[r.team]
		if r.kind == api.ClockMisconduct {
			l = &b.Misconducts[r.team]
		}
		*l = append(*l, api.Penalty{Player: r.player, Kind: r.kind, Left: r.length - r.served})
	}
	return b
}

// changes returns the strengths in which something changes.
func (m *model) changes() []api.Strength {
	var l []api.Strength
	for i, players := range m.strengths {
		if i == 0 || players != m.strengths[i-1] {
			l = append(l, api.Strength{Second: i, Players: players})
		}
	}
	return l
}

// play plays events that need not be in order, nor possible.
func (m *model) play(l []api.ClockEvent) (index int, e api.Errno) {
	for i, v := range l {
		if v.Second < 0 || v.Second > 1<<20 || v.Kind < 0 || v.Kind > 6 {
			return i, api.ErrArg
		}
		if v.Kind >= 2 && (v.Team < 0 || v.Team > 1) || v.Kind >= 3 && (v.Player < 0 || v.Player > 4095) {
			return i, api.ErrArg
		}
		if e := m.happen(v); e != api.OK {
			return i, e
		}
	}
	return len(l), api.OK
}

// told returns a model behind events that can be.
func told(t *testing.T, l []api.ClockEvent) *model {
	t.Helper()
	m := &model{}
	if n, e := m.play(l); n != len(l) || e != api.OK {
		t.Fatalf("%v: the model has the error %d at %d", l, e, n)
	}
	return m
}

// seen returns a model in a second, behind the events up to it.
func seen(t *testing.T, l []api.ClockEvent, second int) *model {
	t.Helper()
	n := 0
	for n < len(l) && l[n].Second <= second {
		n++
	}
	m := told(t, l[:n])
	m.wait(second)
	return m
}

// anyGap returns after how many seconds the next event can be.
func anyGap(rnd *rand.Rand, m *model) int {
	if !m.runs {
		return max(0, rnd.Intn(12)-8)
	}
	rest := 1200 - m.played
	switch rnd.Intn(60) {
	case 0:
		return rest
	case 1:
		return rest - 1
	case 2:
		return rest + 1 + rnd.Intn(3)
	case 3, 4, 5:
		return 0
	case 6, 7, 8:
		return 120
	case 9, 10, 11, 12, 13, 14:
		return rnd.Intn(300)
	}
	return rnd.Intn(60)
}

// anyGame returns up to n events that can be, with a few players.
func anyGame(rnd *rand.Rand, n int) []api.ClockEvent {
	var l []api.ClockEvent
	m, players, starts, rough := &model{}, 1+rnd.Intn(5), 1+rnd.Intn(4), rnd.Intn(7)
	m.second = rnd.Intn(50)
	for len(l) < n {
		v := api.ClockEvent{Second: m.second + anyGap(rnd, m), Team: rnd.Intn(2), Player: rnd.Intn(players)}
		m.wait(v.Second)
		switch {
		case m.runs:
			v.Kind = api.ClockStop + rnd.Intn(2)
		case rnd.Intn(starts+1) > 0:
			v.Kind = given[rnd.Intn(len(given))]
		case m.period == 2 && m.played == 1200:
			return l
		default:
			v.Kind = api.ClockStart
		}
		if v.Kind == api.ClockMajor && rnd.Intn(2) == 0 {
			v.Kind = api.ClockMinor
		}
		if v.Kind >= api.ClockMinor {
			// One team can be the rougher one, so that it is short more often.
			v.Team = 0
			if rnd.Intn(6) < rough {
				v.Team = 1
			}
		}
		m.happen(v)
		l = append(l, v)
	}
	return l
}

// anyEvents returns events of which one may be wrong.
func anyEvents(rnd *rand.Rand) []api.ClockEvent {
	l := anyGame(rnd, 1+rnd.Intn(100))
	if len(l) == 0 {
		return l
	}
	v := &l[rnd.Intn(len(l))]
	switch rnd.Intn(8) {
	case 0:
		v.Kind = rnd.Intn(9) - 1
	case 1:
		v.Second = max(0, v.Second+rnd.Intn(9)-4)
	case 2:
		v.Second = odd[rnd.Intn(len(odd))]
	case 3:
		v.Team = rnd.Intn(4) - 1
	case 4:
		v.Player = odd[rnd.Intn(len(odd))]
	case 5:
		l = append(l, *v)
	}
	return l
}
