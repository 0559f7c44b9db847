package clock

import (
	"slices"

	"icehall/api"
)

// kinds is how many kinds of events there are.
const kinds = api.ClockMisconduct + 1

// game is the clock in a second of the day, and both teams. It tells each stretch of play in which nobody comes back: where it begins, and the strengths in it.
type game struct {
	now, period, played int
	runs                bool
	teams               [2]side
	tell                func(api.Strength)
}

// nobody is told stretches that nobody asks for.
func nobody(api.Strength) {}

// follow returns the game behind all events and their number, or the first one with an error.
func follow(l []api.ClockEvent, tell func(api.Strength)) (g *game, index int, e api.Errno) {
	if len(l) > api.MaxClockEvents {
		return nil, 0, api.ErrLong
	}
	g = &game{tell: tell}
	for i, v := range l {
		if e := g.happen(v); e != api.OK {
			return nil, i, e
		}
	}
	return g, len(l), api.OK
}

// until returns the game in a second of the day.
func until(l []api.ClockEvent, second int, tell func(api.Strength)) (*game, api.Errno) {
	if _, _, e := follow(l, nobody); e != api.OK {
		return nil, e
	}
	if !isSecond(second) {
		return nil, api.ErrRange
	}
	later := slices.IndexFunc(l, func(v api.ClockEvent) bool { return v.Second > second })
	if later >= 0 {
		l = l[:later]
	}
	g, _, e := follow(l, tell)
	if e != api.OK {
		return nil, e
	}
	g.pass(second)
	return g, api.OK
}

// board returns what the board shows now. The game can go on: it shares no memory with it.
func (g *game) board() api.Board {
	b := api.Board{Period: g.period, Played: g.played, Runs: g.runs}
	for i, t := range g.teams {
		b.Goals[i] = t.goals
		b.Penalties[i] = copied(t.penalties)
		b.Misconducts[i] = copied(t.misconducts)
	}
	return b
}

// pass lets time pass up to a second of the day: at once as much as nobody comes back in.
func (g *game) pass(second int) {
	for g.runs && g.now < second {
		lefts := slices.Concat(g.teams[0].lefts(), g.teams[1].lefts())
		g.play(least(second-g.now, append(lefts, api.PeriodLength-g.played)...))
	}
	g.now = second
}

// play plays seconds, in which nobody comes back and the period is not over earlier.
func (g *game) play(seconds int) {
	g.tell(api.Strength{
		Second:  api.PeriodLength*g.period + g.played,
		Players: [2]int{g.teams[0].players(), g.teams[1].players()},
	})
	for i := range g.teams {
		g.teams[i].serve(seconds)
	}
	g.now += seconds
	g.played += seconds
	g.runs = g.played < api.PeriodLength
}

// happen lets an event happen. The game is of no use any more if it returns an error.
func (g *game) happen(v api.ClockEvent) (e api.Errno) {
	if !validEvent(v) {
		return api.ErrArg
	}
	if v.Second < g.now {
		return api.ErrOrder
	}
	defer func() {
		if why := recover(); why != nil {
			e = cause(why)
		}
	}()
	g.pass(v.Second)
	deeds := [kinds]func(api.ClockEvent){
		api.ClockStart:      g.start,
		api.ClockStop:       g.stop,
		api.ClockGoal:       g.goal,
		api.ClockMinor:      g.minor,
		api.ClockDouble:     g.double,
		api.ClockMajor:      g.major,
		api.ClockMisconduct: g.misconduct,
	}
	deeds[v.Kind](v)
	return api.OK
}

// cause returns the error with which an event that cannot be ended. A panic without one is never taken for success.
func cause(why any) api.Errno {
	if e, ok := why.(api.Errno); ok {
		return e
	}
	return api.ErrState
}

// needs ends an event that cannot be unless the clock runs, or does not run.
func (g *game) needs(runs bool) {
	if g.runs != runs {
		panic(api.ErrState)
	}
}

// start starts the clock, with the next period if one is over.
func (g *game) start(api.ClockEvent) {
	g.needs(false)
	if g.played == api.PeriodLength {
		if g.period == api.Periods-1 {
			panic(api.ErrFull)
		}
		g.period++
		g.played = 0
	}
	g.runs = true
}

// stop stops the clock.
func (g *game) stop(api.ClockEvent) {
	g.needs(true)
	g.runs = false
}

// goal counts a goal, which ends a minor penalty of the other team if that is short.
func (g *game) goal(v api.ClockEvent) {
	g.stop(v)
	scored, other := &g.teams[v.Team], &g.teams[1-v.Team]
	scored.goals++
	if other.players() < scored.players() {
		other.free()
	}
}

// minor gives a minor penalty.
func (g *game) minor(v api.ClockEvent) {
	g.penalize(v, api.Penalty{Kind: api.ClockMinor, Left: api.MinorLength})
}

// double gives two minor penalties.
func (g *game) double(v api.ClockEvent) {
	g.minor(v)
	g.minor(v)
}

// major gives a major penalty.
func (g *game) major(v api.ClockEvent) {
	g.penalize(v, api.Penalty{Kind: api.ClockMajor, Left: api.MajorLength})
}

// penalize gives a penalty to the player of an event.
func (g *game) penalize(v api.ClockEvent, p api.Penalty) {
	g.needs(false)
	p.Player = v.Player
	t := &g.teams[v.Team]
	t.penalties = append(t.penalties, p)
}

// misconduct gives a misconduct.
func (g *game) misconduct(v api.ClockEvent) {
	g.needs(false)
	t := &g.teams[v.Team]
	t.misconducts = append(t.misconducts, api.Penalty{Player: v.Player, Kind: api.ClockMisconduct, Left: api.LongLength})
}
