package brine_test

import (
	"math"
	"math/big"
	"math/rand"
	"slices"
	"testing"

	"icehall/api"
	"icehall/brine"
)

// odd is numbers that no range of the chapter contains, or that are at the end of one.
var odd = []int{math.MinInt, -1, 0, 1, api.MaxLitres, api.MaxLitres + 1, api.MaxHeat, api.MaxHeat + 1, math.MaxInt}

func slug(volume, heat int) api.Slug { return api.Slug{Volume: volume, Heat: heat} }

func pipe(room int, l ...api.Slug) api.Pipe { return api.Pipe{Room: room, Slugs: l} }

// example returns the brine of the document's examples.
func example() api.Brine {
	return api.Brine{
		Tank:  slug(100, 1000),
		Pipes: []api.Pipe{pipe(50, slug(30, 90), slug(20, 100)), pipe(40, slug(10, 50))},
		Heat:  200, HeatRoom: 500,
	}
}

// exampleEvents returns the events of the document's examples.
func exampleEvents() []api.BrineEvent {
	return []api.BrineEvent{
		{Kind: api.Pump, Amount: 30},
		{Kind: api.Warm, Heat: 50},
		{Kind: api.Leak, Pipe: 1, Amount: 15},
		{Kind: api.Pump, Amount: 20},
		{Kind: api.Chill, Heat: 400},
		{Kind: api.Use, Heat: 550},
	}
}

// clone returns the same brine in memory of its own.
func clone(b api.Brine) api.Brine {
	b.Pipes = slices.Clone(b.Pipes)
	for i, p := range b.Pipes {
		b.Pipes[i].Slugs = slices.Clone(p.Slugs)
	}
	return b
}

// same returns whether brine is the same.
func same(a, b api.Brine) bool {
	pipes := slices.EqualFunc(a.Pipes, b.Pipes, func(p, q api.Pipe) bool {
		return p.Room == q.Room && slices.Equal(p.Slugs, q.Slugs)
	})
	return pipes && a.Tank == b.Tank && a.Heat == b.Heat && a.HeatRoom == b.HeatRoom
}

// badBrines returns brine that is not valid, by what is wrong with it.
func badBrines() map[string]api.Brine {
	changes := map[string]func(b *api.Brine){
		"a tank below 0":                    func(b *api.Brine) { b.Tank = slug(-1, 0) },
		"a tank above MaxLitres":            func(b *api.Brine) { b.Tank = slug(api.MaxLitres+1, 0) },
		"a tank with heat below 0":          func(b *api.Brine) { b.Tank = slug(5, -1) },
		"a tank with heat above MaxHeat":    func(b *api.Brine) { b.Tank = slug(5, api.MaxHeat+1) },
		"an empty tank with heat":           func(b *api.Brine) { b.Tank = slug(0, 1) },
		"an empty tank with heat below 0":   func(b *api.Brine) { b.Tank = slug(0, -1) },
		"nil pipes":                         func(b *api.Brine) { b.Pipes = nil },
		"empty pipes":                       func(b *api.Brine) { b.Pipes = []api.Pipe{} },
		"9 pipes":                           func(b *api.Brine) { b.Pipes = slices.Repeat([]api.Pipe{pipe(1)}, api.MaxPipes+1) },
		"no room":                           func(b *api.Brine) { b.Pipes[1] = pipe(0) },
		"room below 0":                      func(b *api.Brine) { b.Pipes[1] = pipe(-1) },
		"room above MaxLitres":              func(b *api.Brine) { b.Pipes[1] = pipe(api.MaxLitres + 1) },
		"17 slugs":                          func(b *api.Brine) { b.Pipes[1] = pipe(50, slices.Repeat([]api.Slug{slug(1, 0)}, api.MaxSlugs+1)...) },
		"a slug of nothing":                 func(b *api.Brine) { b.Pipes[1] = pipe(50, slug(0, 0)) },
		"a slug below 0":                    func(b *api.Brine) { b.Pipes[1] = pipe(50, slug(5, 0), slug(-1, 0)) },
		"a slug above MaxLitres":            func(b *api.Brine) { b.Pipes[1] = pipe(api.MaxLitres, slug(api.MaxLitres+1, 0)) },
		"a slug with heat below 0":          func(b *api.Brine) { b.Pipes[1] = pipe(50, slug(1, -1)) },
		"a slug with heat above MaxHeat":    func(b *api.Brine) { b.Pipes[1] = pipe(50, slug(1, api.MaxHeat+1)) },
		"a slug more than room":             func(b *api.Brine) { b.Pipes[0].Room = 29 },
		"slugs together more than room":     func(b *api.Brine) { b.Pipes[0].Room = 49 },
		"slugs of any size":                 func(b *api.Brine) { b.Pipes[1] = pipe(50, slug(math.MaxInt, 0), slug(math.MaxInt, 0)) },
		"heat below 0":                      func(b *api.Brine) { b.Heat = -1 },
		"heat above its room":               func(b *api.Brine) { b.Heat = 501 },
		"room for heat below 0":             func(b *api.Brine) { b.Heat, b.HeatRoom = 0, -1 },
		"heat and its room below 0":         func(b *api.Brine) { b.Heat, b.HeatRoom = -1, -1 },
		"room for heat above MaxHeat":       func(b *api.Brine) { b.HeatRoom = api.MaxHeat + 1 },
		"the last pipe's last slug is none": func(b *api.Brine) { b.Pipes[1] = pipe(40, slug(10, 50), slug(0, 0)) },
	}
	bad := map[string]api.Brine{"nothing": {}}
	for name, change := range changes {
		b := example()
		change(&b)
		bad[name] = b
	}
	return bad
}

// mustPlay plays events that have to end well.
func mustPlay(t *testing.T, b api.Brine, l []api.BrineEvent) (api.Brine, api.BrineSums) {
	t.Helper()
	end, s, n, e := brine.Play(b, l)
	if e != api.OK || n != len(l) {
		t.Fatalf("Play(%v, %v): index %d, error %d", b, l, n, e)
	}
	return end, s
}

// anyBrine returns brine with pipes of at most so many litres.
func anyBrine(rnd *rand.Rand, room int) api.Brine {
	b := api.Brine{Tank: slug(1+rnd.Intn(60), rnd.Intn(500)), HeatRoom: rnd.Intn(300)}
	b.Heat = rnd.Intn(b.HeatRoom + 1)
	for range 1 + rnd.Intn(4) {
		p := pipe(1 + rnd.Intn(room))
		for free := p.Room; free > 0 && len(p.Slugs) < api.MaxSlugs && rnd.Intn(6) > 0; {
			s := slug(1+rnd.Intn(min(free, 4)), rnd.Intn(100))
			p.Slugs = append(p.Slugs, s)
			free -= s.Volume
		}
		b.Pipes = append(b.Pipes, p)
	}
	return b
}

// anyEvents returns events that can be, one behind the other.
func anyEvents(rnd *rand.Rand, b api.Brine, n int) []api.BrineEvent {
	var l []api.BrineEvent
	for len(l) < n {
		v := api.BrineEvent{Kind: rnd.Intn(api.Use + 1), Pipe: rnd.Intn(len(b.Pipes)), Amount: 1 + rnd.Intn(12), Heat: rnd.Intn(150)}
		if rnd.Intn(2) == 0 {
			v.Kind = api.Pump
		}
		if end, _, _, e := brine.Play(b, []api.BrineEvent{v}); e == api.OK {
			b = end
			l = append(l, v)
		} else if v.Kind == api.Pump {
			l = append(l, api.BrineEvent{Kind: api.Fill, Amount: 30, Heat: 100})
			b.Tank.Volume += 30
			b.Tank.Heat += 100
		}
	}
	return l
}

// model is brine told once more, as the document words it: step by step, without regard to speed or to the size of numbers.
type model struct {
	b    api.Brine
	sums api.BrineSums
}

// share returns heat times part divided by all, rounded down.
func share(heat, part, all int) int {
	x := new(big.Int).Mul(big.NewInt(int64(heat)), big.NewInt(int64(part)))
	return int(x.Div(x, big.NewInt(int64(all))).Int64())
}

// split takes litres out of a slug.
func split(s api.Slug, litres int) (out, rest api.Slug) {
	if litres == s.Volume {
		return s, slug(0, 0)
	}
	out = slug(litres, share(s.Heat, litres, s.Volume))
	return out, slug(s.Volume-litres, s.Heat-out.Heat)
}

func litres(l []api.Slug) int {
	n := 0
	for _, s := range l {
		n += s.Volume
	}
	return n
}

// release lets litres flow out of a list of slugs.
func release(l []api.Slug, n int) (out, rest []api.Slug) {
	for len(l) > 0 && l[0].Volume <= n {
		n -= l[0].Volume
		out = append(out, l[0])
		l = l[1:]
	}
	rest = slices.Clone(l)
	if n > 0 && len(rest) > 0 {
		part, stays := split(rest[0], n)
		out = append(out, part)
		rest[0] = stays
	}
	return out, rest
}

// flow lets slugs flow into a pipe, one after the other, and returns all that flows out.
func (m *model) flow(pipe int, in []api.Slug) (out []api.Slug) {
	p := &m.b.Pipes[pipe]
	for _, s := range in {
		l := append(slices.Clone(p.Slugs), s)
		var gone []api.Slug
		if over := litres(l) - p.Room; over > 0 {
			gone, l = release(l, over)
		}
		if n := len(l); n > api.MaxSlugs {
			l = append(l[:n-2], slug(l[n-2].Volume+l[n-1].Volume, l[n-2].Heat+l[n-1].Heat))
		}
		p.Slugs = l
		out = append(out, gone...)
	}
	return out
}

// happen lets an event happen that can be.
func (m *model) happen(v api.BrineEvent) {
	switch v.Kind {
	case api.Pump:
		s, rest := split(m.b.Tank, v.Amount)
		m.b.Tank = rest
		flow := []api.Slug{s}
		for i := range m.b.Pipes {
			flow = m.flow(i, flow)
		}
		for _, s := range flow {
			m.b.Tank = slug(m.b.Tank.Volume+s.Volume, m.b.Tank.Heat+s.Heat)
		}
	case api.Warm:
		l := m.b.Pipes[v.Pipe].Slugs
		all, left := litres(l), v.Heat
		for i := range l[:len(l)-1] {
			n := share(v.Heat, l[i].Volume, all)
			l[i].Heat += n
			left -= n
		}
		l[len(l)-1].Heat += left
		m.sums.Warmed += v.Heat
	case api.Leak:
		out, rest := release(m.b.Pipes[v.Pipe].Slugs, v.Amount)
		m.b.Pipes[v.Pipe].Slugs = rest
		for _, s := range out {
			m.sums.Leaked = slug(m.sums.Leaked.Volume+s.Volume, m.sums.Leaked.Heat+s.Heat)
		}
	case api.Fill:
		m.b.Tank = slug(m.b.Tank.Volume+v.Amount, m.b.Tank.Heat+v.Heat)
		m.sums.Filled = slug(m.sums.Filled.Volume+v.Amount, m.sums.Filled.Heat+v.Heat)
	default:
		m.heat(v)
	}
}

// heat lets an event happen that changes nothing but heat outside of the pipes.
func (m *model) heat(v api.BrineEvent) {
	if v.Kind == api.Chill {
		m.b.Tank.Heat -= v.Heat
		m.sums.Chilled += v.Heat
		m.b.Heat += v.Heat
		if over := m.b.Heat - m.b.HeatRoom; over > 0 {
			m.b.Heat -= over
			m.sums.Air += over
		}
		return
	}
	m.sums.Used += v.Heat
	if v.Heat > m.b.Heat {
		m.sums.Bought += v.Heat - m.b.Heat
		m.b.Heat = 0
		return
	}
	m.b.Heat -= v.Heat
}

// checkModel plays events that can be, and the same with the model.
func checkModel(t *testing.T, b api.Brine, l []api.BrineEvent) (api.Brine, api.BrineSums) {
	t.Helper()
	end, s := mustPlay(t, b, l)
	m := &model{b: clone(b)}
	for _, v := range l {
		m.happen(v)
	}
	if !same(end, m.b) || s != m.sums {
		t.Fatalf("Play(%v, %v): %v, %v; want %v, %v", b, l, end, s, m.b, m.sums)
	}
	return end, s
}

// all returns all litres and heat of brine that need not be valid.
func all(b api.Brine) api.Slug {
	sum := slug(b.Tank.Volume, b.Tank.Heat+b.Heat)
	for _, p := range b.Pipes {
		for _, s := range p.Slugs {
			sum = slug(sum.Volume+s.Volume, sum.Heat+s.Heat)
		}
	}
	return sum
}
