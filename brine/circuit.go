package brine

import (
	"iter"

	"icehall/api"
)

// kinds is how many kinds of events there are.
const kinds = api.Use + 1

// store is heat that is stored, and how much of it can be.
type store struct{ heat, room int }

// use uses heat of what is stored, as far as it goes, and returns what has to be bought.
func (s *store) use(heat int) int {
	stored := min(s.heat, heat)
	s.heat -= stored
	return heat - stored
}

// spill lets go of what has no room, and returns how much that is.
func (s *store) spill() int {
	over := max(0, s.heat-s.room)
	s.heat -= over
	return over
}

// circuit is brine to which events happen, and the sums of them.
type circuit struct {
	tank  api.Slug
	pipes []pipe
	hot   store
	sums  api.BrineSums
}

// newCircuit returns brine to which nothing has happened yet.
func newCircuit(b api.Brine) *circuit {
	c := &circuit{tank: b.Tank, pipes: make([]pipe, len(b.Pipes)), hot: store{heat: b.Heat, room: b.HeatRoom}}
	for i, p := range b.Pipes {
		slugs := make([]api.Slug, len(p.Slugs))
		copy(slugs, p.Slugs)
		c.pipes[i] = pipe{Room: p.Room, Slugs: slugs}
	}
	return c
}

// brine returns the brine as it is now. It goes on to use the slugs of the circuit.
func (c *circuit) brine() api.Brine {
	b := api.Brine{Tank: c.tank, Pipes: make([]api.Pipe, len(c.pipes)), Heat: c.hot.heat, HeatRoom: c.hot.room}
	for i, p := range c.pipes {
		b.Pipes[i] = api.Pipe(p)
	}
	return b
}

// happen lets an event happen. The circuit is of no use any more if it returns an error.
func (c *circuit) happen(v api.BrineEvent) (e api.Errno) {
	if !validEvent(v, len(c.pipes)) {
		return api.ErrArg
	}
	defer func() {
		if why := recover(); why != nil {
			e = cause(why)
		}
	}()
	deeds := [kinds]func(*circuit, api.BrineEvent){
		api.Pump:  (*circuit).pump,
		api.Warm:  (*circuit).warm,
		api.Leak:  (*circuit).leak,
		api.Fill:  (*circuit).fill,
		api.Chill: (*circuit).chill,
		api.Use:   (*circuit).use,
	}
	deeds[v.Kind](c, v)
	return api.OK
}

// cause returns the error with which an event that cannot be ended. A panic without one is never taken for success.
func cause(why any) api.Errno {
	if e, ok := why.(api.Errno); ok {
		return e
	}
	return api.ErrState
}

// pump pumps litres out of the tank through all pipes.
func (c *circuit) pump(v api.BrineEvent) {
	if c.tank.Volume < v.Amount {
		panic(api.ErrShort)
	}
	flow := one(take(&c.tank, v.Amount))
	for i := range c.pipes {
		flow = c.pipes[i].pass(flow)
	}
	for s := range flow {
		add(&c.tank, s)
	}
}

// one gives a single slug.
func one(s api.Slug) iter.Seq[api.Slug] {
	return func(yield func(api.Slug) bool) { yield(s) }
}

// warm brings heat into a pipe.
func (c *circuit) warm(v api.BrineEvent) {
	p := &c.pipes[v.Pipe]
	if len(p.Slugs) == 0 {
		panic(api.ErrState)
	}
	p.warm(v.Heat)
	c.sums.Warmed += v.Heat
}

// leak lets litres leak out of a pipe, as far as there are any.
func (c *circuit) leak(v api.BrineEvent) {
	p := &c.pipes[v.Pipe]
	for s := range p.drain(min(v.Amount, p.litres())) {
		add(&c.sums.Leaked, s)
	}
}

// fill brings brine into the tank.
func (c *circuit) fill(v api.BrineEvent) {
	if c.tank.Volume+v.Amount > api.MaxLitres {
		panic(api.ErrLimit)
	}
	s := api.Slug{Volume: v.Amount, Heat: v.Heat}
	add(&c.tank, s)
	add(&c.sums.Filled, s)
}

// chill takes heat out of the tank and stores it, as far as there is room.
func (c *circuit) chill(v api.BrineEvent) {
	if c.tank.Heat < v.Heat {
		panic(api.ErrShort)
	}
	c.tank.Heat -= v.Heat
	c.sums.Chilled += v.Heat
	c.hot.heat += v.Heat
	c.sums.Air += c.hot.spill()
}

// use uses heat, and buys what is not stored.
func (c *circuit) use(v api.BrineEvent) {
	c.sums.Used += v.Heat
	c.sums.Bought += c.hot.use(v.Heat)
}
