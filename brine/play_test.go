package brine_test

import (
	"math"
	"slices"
	"testing"

	"icehall/api"
	"icehall/brine"
)

// playCase is a call of Play and its results.
type playCase struct {
	name string
	b    api.Brine
	l    []api.BrineEvent
	end  api.Brine
	sums api.BrineSums
	n    int
	e    api.Errno
}

func checkPlays(t *testing.T, cases []playCase) {
	t.Helper()
	for _, c := range cases {
		end, s, n, e := brine.Play(c.b, c.l)
		if !same(end, c.end) || s != c.sums || n != c.n || e != c.e {
			t.Errorf("%s: %v, %v, %d, %d; want %v, %v, %d, %d", c.name, end, s, n, e, c.end, c.sums, c.n, c.e)
		}
	}
}

// line returns brine with a tank and pipes, and without heat that is stored.
func line(tank api.Slug, pipes ...api.Pipe) api.Brine {
	return api.Brine{Tank: tank, Pipes: pipes}
}

func pump(n int) api.BrineEvent { return api.BrineEvent{Kind: api.Pump, Amount: n} }

// P2.1: the document's examples.
func TestPlayExamples(t *testing.T) {
	b, l := example(), exampleEvents()
	checkPlays(t, []playCase{
		{name: "all", b: b, l: l, n: 6,
			end:  api.Brine{Tank: slug(55, 115), Pipes: []api.Pipe{pipe(50, slug(30, 330), slug(20, 200)), pipe(40, slug(20, 60), slug(20, 120))}, HeatRoom: 500},
			sums: api.BrineSums{Warmed: 50, Leaked: slug(15, 65), Chilled: 400, Air: 100, Used: 550, Bought: 50}},
		{name: "the first", b: b, l: l[:1], n: 1,
			end: api.Brine{Tank: slug(70, 700), Pipes: []api.Pipe{pipe(50, slug(20, 100), slug(30, 300)), pipe(40, slug(10, 50), slug(30, 90))}, Heat: 200, HeatRoom: 500}},
		{name: "the first three", b: b, l: l[:3], n: 3,
			end:  api.Brine{Tank: slug(70, 700), Pipes: []api.Pipe{pipe(50, slug(20, 120), slug(30, 330)), pipe(40, slug(25, 75))}, Heat: 200, HeatRoom: 500},
			sums: api.BrineSums{Warmed: 50, Leaked: slug(15, 65)}},
		{name: "none", b: b, end: b},
	})
}

// P2.1: what is pumped flows through all pipes.
func TestPlayPump(t *testing.T) {
	checkPlays(t, []playCase{
		{name: "part of the tank, rounded down", b: line(slug(10, 7), pipe(9)), l: []api.BrineEvent{pump(3)}, n: 1, end: line(slug(7, 5), pipe(9, slug(3, 2)))},
		{name: "all of the tank", b: line(slug(10, 7), pipe(10)), l: []api.BrineEvent{pump(10)}, n: 1, end: line(slug(0, 0), pipe(10, slug(10, 7)))},
		{name: "more than room", b: line(slug(10, 7), pipe(4)), l: []api.BrineEvent{pump(10)}, n: 1, end: line(slug(6, 4), pipe(4, slug(4, 3)))},
		{name: "more than room of all pipes", b: line(slug(10, 100), pipe(4), pipe(3), pipe(2)), l: []api.BrineEvent{pump(10)}, n: 1,
			end: line(slug(1, 10), pipe(4, slug(4, 40)), pipe(3, slug(3, 30)), pipe(2, slug(2, 20)))},
		{name: "just as much as has room", b: line(slug(9, 9), pipe(5, slug(2, 1))), l: []api.BrineEvent{pump(3)}, n: 1, end: line(slug(6, 6), pipe(5, slug(2, 1), slug(3, 3)))},
		{name: "the first slug as a whole", b: line(slug(9, 9), pipe(5, slug(2, 7), slug(3, 8))), l: []api.BrineEvent{pump(2)}, n: 1, end: line(slug(9, 14), pipe(5, slug(3, 8), slug(2, 2)))},
		{name: "a part of the first slug", b: line(slug(9, 9), pipe(5, slug(3, 8), slug(2, 7))), l: []api.BrineEvent{pump(2)}, n: 1, end: line(slug(9, 12), pipe(5, slug(1, 3), slug(2, 7), slug(2, 2)))},
		{name: "a whole one, and a part", b: line(slug(9, 0), pipe(5, slug(2, 4), slug(3, 8))), l: []api.BrineEvent{pump(4)}, n: 1, end: line(slug(9, 9), pipe(5, slug(1, 3), slug(4, 0)))},
		{name: "slug by slug into the next pipe", b: line(slug(9, 0), pipe(5, slug(2, 4), slug(3, 8)), pipe(9)), l: []api.BrineEvent{pump(4)}, n: 1,
			end: line(slug(5, 0), pipe(5, slug(1, 3), slug(4, 0)), pipe(9, slug(2, 4), slug(2, 5)))},
		{name: "rounded down slug by slug", b: line(slug(9, 0), pipe(3, slug(1, 5), slug(1, 5), slug(1, 5)), pipe(2, slug(2, 3))), l: []api.BrineEvent{pump(1)}, n: 1,
			end: line(slug(9, 1), pipe(3, slug(1, 5), slug(1, 5), slug(1, 0)), pipe(2, slug(1, 2), slug(1, 5)))},
		{name: "more than the tank has", b: line(slug(9, 9), pipe(5)), l: []api.BrineEvent{pump(10)}, e: api.ErrShort},
		{name: "an empty tank", b: line(slug(0, 0), pipe(5)), l: []api.BrineEvent{pump(1)}, e: api.ErrShort},
		{name: "less than before, behind what came back", b: line(slug(9, 9), pipe(5)), l: []api.BrineEvent{pump(9), pump(4), pump(5)}, n: 2, e: api.ErrShort},
	})
}

// P2.1: the last two slugs become one, but only behind what flows out.
func TestPlayJoin(t *testing.T) {
	ones := func(n int) []api.Slug {
		l := make([]api.Slug, n)
		for i := range l {
			l[i] = slug(1, i)
		}
		return l
	}
	full := slices.Concat(ones(15), []api.Slug{slug(1, 15)})
	wide := slices.Concat([]api.Slug{slug(5, 50)}, ones(15))
	tank := slug(50, 100)
	checkPlays(t, []playCase{
		{name: "the 16th", b: line(tank, pipe(99, ones(15)...)), l: []api.BrineEvent{pump(3)}, n: 1, end: line(slug(47, 94), pipe(99, append(ones(15), slug(3, 6))...))},
		{name: "the 17th", b: line(tank, pipe(99, full...)), l: []api.BrineEvent{pump(3)}, n: 1, end: line(slug(47, 94), pipe(99, append(ones(15), slug(4, 21))...))},
		{name: "the 17th and 18th", b: line(tank, pipe(99, full...)), l: []api.BrineEvent{pump(3), pump(2)}, n: 2, end: line(slug(45, 90), pipe(99, append(ones(15), slug(6, 25))...))},
		{name: "the first flows out as a whole", b: line(tank, pipe(16, full...)), l: []api.BrineEvent{pump(1)}, n: 1, end: line(slug(50, 98), pipe(16, append(full[1:16:16], slug(1, 2))...))},
		{name: "only a part flows out", b: line(tank, pipe(20, wide...)), l: []api.BrineEvent{pump(2)}, n: 1,
			end: line(slug(50, 116), pipe(20, slices.Concat([]api.Slug{slug(3, 30)}, ones(14), []api.Slug{slug(3, 18)})...))},
		{name: "in the next pipe, one after the other", b: line(tank, pipe(3, ones(3)...), pipe(99, full...)), l: []api.BrineEvent{pump(3)}, n: 1,
			end: line(slug(47, 94), pipe(3, slug(3, 6)), pipe(99, append(ones(15), slug(4, 18))...))},
	})
}

// P2.1: heat comes into a pipe by litres.
func TestPlayWarm(t *testing.T) {
	warm := func(pipe, heat int) []api.BrineEvent {
		return []api.BrineEvent{{Kind: api.Warm, Pipe: pipe, Heat: heat}}
	}
	three := func() api.Brine { return line(slug(1, 1), pipe(9, slug(3, 0), slug(3, 5), slug(1, 0)), pipe(2)) }
	checkPlays(t, []playCase{
		{name: "the rest goes to the last", b: three(), l: warm(0, 10), n: 1, end: line(slug(1, 1), pipe(9, slug(3, 4), slug(3, 9), slug(1, 2)), pipe(2)), sums: api.BrineSums{Warmed: 10}},
		{name: "less than there are slugs", b: three(), l: warm(0, 2), n: 1, end: line(slug(1, 1), pipe(9, slug(3, 0), slug(3, 5), slug(1, 2)), pipe(2)), sums: api.BrineSums{Warmed: 2}},
		{name: "none", b: three(), l: warm(0, 0), n: 1, end: three()},
		{name: "one slug", b: line(slug(1, 1), pipe(2), pipe(9, slug(3, 1))), l: warm(1, 10), n: 1, end: line(slug(1, 1), pipe(2), pipe(9, slug(3, 11))), sums: api.BrineSums{Warmed: 10}},
		{name: "all that can be", b: three(), l: warm(0, api.MaxHeat), n: 1,
			end: line(slug(1, 1), pipe(9, slug(3, api.MaxHeat*3/7), slug(3, 5+api.MaxHeat*3/7), slug(1, api.MaxHeat-2*(api.MaxHeat*3/7))), pipe(2)), sums: api.BrineSums{Warmed: api.MaxHeat}},
		{name: "no slugs", b: three(), l: warm(1, 10), e: api.ErrState},
		{name: "no slugs and no heat", b: three(), l: warm(1, 0), e: api.ErrState},
	})
}

// P2.1: what leaks is lost.
func TestPlayLeak(t *testing.T) {
	leak := func(amounts ...int) (l []api.BrineEvent) {
		for _, n := range amounts {
			l = append(l, api.BrineEvent{Kind: api.Leak, Pipe: 1, Amount: n})
		}
		return l
	}
	two := func(l ...api.Slug) api.Brine { return line(slug(1, 1), pipe(5, slug(5, 5)), pipe(9, l...), pipe(3)) }
	lost := func(volume, heat int) api.BrineSums { return api.BrineSums{Leaked: slug(volume, heat)} }
	checkPlays(t, []playCase{
		{name: "a part of the first", b: two(slug(3, 8), slug(4, 9)), l: leak(2), n: 1, end: two(slug(1, 3), slug(4, 9)), sums: lost(2, 5)},
		{name: "all of the first", b: two(slug(3, 8), slug(4, 9)), l: leak(3), n: 1, end: two(slug(4, 9)), sums: lost(3, 8)},
		{name: "more than the first", b: two(slug(3, 8), slug(4, 9)), l: leak(4), n: 1, end: two(slug(3, 7)), sums: lost(4, 10)},
		{name: "all", b: two(slug(3, 8), slug(4, 9)), l: leak(7), n: 1, end: two(), sums: lost(7, 17)},
		{name: "more than there is", b: two(slug(3, 8), slug(4, 9)), l: leak(api.MaxLitres), n: 1, end: two(), sums: lost(7, 17)},
		{name: "of an empty pipe", b: two(), l: leak(1), n: 1, end: two()},
		{name: "again", b: two(slug(3, 8)), l: leak(1, 1, 1, 1), n: 4, end: two(), sums: lost(3, 8)},
	})
}

// P2.1: what comes into the tank, and heat that is stored and used.
func TestPlayTankAndStore(t *testing.T) {
	b := api.Brine{Tank: slug(10, 7), Pipes: []api.Pipe{pipe(4)}, Heat: 1, HeatRoom: 5}
	after := func(tank api.Slug, heat int) api.Brine {
		return api.Brine{Tank: tank, Pipes: []api.Pipe{pipe(4)}, Heat: heat, HeatRoom: 5}
	}
	fill := func(n, heat int) api.BrineEvent { return api.BrineEvent{Kind: api.Fill, Amount: n, Heat: heat} }
	chill := func(heat int) api.BrineEvent { return api.BrineEvent{Kind: api.Chill, Heat: heat} }
	use := func(heat int) api.BrineEvent { return api.BrineEvent{Kind: api.Use, Heat: heat} }
	empty := line(slug(0, 0), pipe(4))
	checkPlays(t, []playCase{
		{name: "fill", b: b, l: []api.BrineEvent{fill(5, 6), fill(1, 0)}, n: 2, end: after(slug(16, 13), 1), sums: api.BrineSums{Filled: slug(6, 6)}},
		{name: "fill up", b: b, l: []api.BrineEvent{fill(api.MaxLitres-10, 0)}, n: 1, end: after(slug(api.MaxLitres, 7), 1), sums: api.BrineSums{Filled: slug(api.MaxLitres-10, 0)}},
		{name: "fill too much", b: b, l: []api.BrineEvent{fill(api.MaxLitres-9, 0)}, e: api.ErrLimit},
		{name: "fill too much, later", b: b, l: []api.BrineEvent{fill(api.MaxLitres-10, 0), fill(1, 0)}, n: 1, e: api.ErrLimit},
		{name: "fill an empty tank", b: empty, l: []api.BrineEvent{fill(3, 9)}, n: 1, end: line(slug(3, 9), pipe(4)), sums: api.BrineSums{Filled: slug(3, 9)}},
		{name: "fill with heat beyond MaxHeat", b: b, l: []api.BrineEvent{fill(1, api.MaxHeat)}, n: 1, end: after(slug(11, api.MaxHeat+7), 1), sums: api.BrineSums{Filled: slug(1, api.MaxHeat)}},
		{name: "chill", b: b, l: []api.BrineEvent{chill(4)}, n: 1, end: after(slug(10, 3), 5), sums: api.BrineSums{Chilled: 4}},
		{name: "chill beyond the room", b: b, l: []api.BrineEvent{chill(5), chill(2)}, n: 2, end: after(slug(10, 0), 5), sums: api.BrineSums{Chilled: 7, Air: 3}},
		{name: "chill more than there is", b: b, l: []api.BrineEvent{chill(8)}, e: api.ErrShort},
		{name: "chill nothing of an empty tank", b: empty, l: []api.BrineEvent{chill(0)}, n: 1, end: empty},
		{name: "chill an empty tank", b: empty, l: []api.BrineEvent{chill(1)}, e: api.ErrShort},
		{name: "chill without a room", b: line(slug(5, 5), pipe(4)), l: []api.BrineEvent{chill(5)}, n: 1, end: line(slug(5, 0), pipe(4)), sums: api.BrineSums{Chilled: 5, Air: 5}},
		{name: "use what is stored", b: b, l: []api.BrineEvent{chill(3), use(3)}, n: 2, end: after(slug(10, 4), 1), sums: api.BrineSums{Chilled: 3, Used: 3}},
		{name: "use just all", b: b, l: []api.BrineEvent{use(1)}, n: 1, end: after(slug(10, 7), 0), sums: api.BrineSums{Used: 1}},
		{name: "use more", b: b, l: []api.BrineEvent{use(4), use(api.MaxHeat)}, n: 2, end: after(slug(10, 7), 0), sums: api.BrineSums{Used: 4 + api.MaxHeat, Bought: 3 + api.MaxHeat}},
		{name: "use nothing", b: b, l: []api.BrineEvent{use(0)}, n: 1, end: b},
	})
}

// P2.1: which events are not valid.
func TestPlayBadEvents(t *testing.T) {
	good := pump(1)
	for _, v := range []api.BrineEvent{
		{Kind: -1, Amount: 1}, {Kind: 6, Amount: 1}, {Kind: math.MaxInt, Amount: 1}, {Kind: math.MinInt, Amount: 1},
		{Kind: api.Pump}, {Kind: api.Pump, Amount: -1}, {Kind: api.Pump, Amount: api.MaxLitres + 1}, {Kind: api.Pump, Amount: math.MinInt},
		{Kind: api.Warm, Pipe: -1}, {Kind: api.Warm, Pipe: 2}, {Kind: api.Warm, Pipe: math.MaxInt}, {Kind: api.Warm, Heat: -1}, {Kind: api.Warm, Heat: api.MaxHeat + 1},
		{Kind: api.Leak, Pipe: -1, Amount: 1}, {Kind: api.Leak, Pipe: 2, Amount: 1}, {Kind: api.Leak}, {Kind: api.Leak, Amount: -1}, {Kind: api.Leak, Amount: api.MaxLitres + 1},
		{Kind: api.Fill}, {Kind: api.Fill, Amount: -1}, {Kind: api.Fill, Amount: api.MaxLitres + 1}, {Kind: api.Fill, Amount: 1, Heat: -1}, {Kind: api.Fill, Amount: 1, Heat: api.MaxHeat + 1},
		{Kind: api.Chill, Heat: -1}, {Kind: api.Chill, Heat: api.MaxHeat + 1}, {Kind: api.Chill, Heat: math.MinInt},
		{Kind: api.Use, Heat: -1}, {Kind: api.Use, Heat: api.MaxHeat + 1}, {Kind: api.Use, Heat: math.MaxInt},
	} {
		for before := range 3 {
			l := append(slices.Repeat([]api.BrineEvent{good}, before), v, good)
			checkPlays(t, []playCase{{name: "a bad event", b: example(), l: l, n: before, e: api.ErrArg}})
		}
	}
}

// R8: fields that a kind does not use are not looked at.
func TestPlayUnused(t *testing.T) {
	for _, kind := range []int{api.Pump, api.Warm, api.Leak, api.Fill, api.Chill, api.Use} {
		plain := api.BrineEvent{Kind: kind, Amount: 5, Heat: 7}
		want, sums := mustPlay(t, example(), []api.BrineEvent{plain})
		for _, n := range odd {
			v := plain
			if kind != api.Warm && kind != api.Leak {
				v.Pipe = n
			}
			if kind == api.Warm || kind == api.Chill || kind == api.Use {
				v.Amount = n
			}
			if kind == api.Pump || kind == api.Leak {
				v.Heat = n
			}
			if end, s := mustPlay(t, example(), []api.BrineEvent{v}); !same(end, want) || s != sums {
				t.Errorf("%v is not as %v: %v, %v", v, plain, end, s)
			}
		}
	}
}

// P2.1 and R1: the first error decides.
func TestPlayErrorOrder(t *testing.T) {
	good, bad := pump(1), api.BrineEvent{Kind: 9}
	short := pump(api.MaxLitres)
	limit := api.BrineEvent{Kind: api.Fill, Amount: api.MaxLitres}
	state := []api.BrineEvent{{Kind: api.Leak, Amount: 99}, {Kind: api.Warm, Heat: 1}}
	long := slices.Repeat([]api.BrineEvent{bad}, api.MaxBrineEvents+1)
	checkPlays(t, []playCase{
		{name: "long, and bad events", b: example(), l: long, e: api.ErrLong},
		{name: "as many as can be, and all bad", b: example(), l: long[1:], e: api.ErrArg},
		{name: "bad first", b: example(), l: []api.BrineEvent{good, bad, short, limit}, n: 1, e: api.ErrArg},
		{name: "short first", b: example(), l: []api.BrineEvent{good, short, bad, limit}, n: 1, e: api.ErrShort},
		{name: "limit first", b: example(), l: []api.BrineEvent{good, good, limit, bad, short}, n: 2, e: api.ErrLimit},
		{name: "state first", b: example(), l: append(state, bad, short), n: 1, e: api.ErrState},
		{name: "short, and not valid", b: example(), l: []api.BrineEvent{pump(api.MaxLitres + 1)}, e: api.ErrArg},
		{name: "limit, and not valid", b: example(), l: []api.BrineEvent{{Kind: api.Fill, Amount: api.MaxLitres, Heat: -1}}, e: api.ErrArg},
		{name: "state, and not valid", b: line(slug(0, 0), pipe(1)), l: []api.BrineEvent{{Kind: api.Warm, Heat: -1}}, e: api.ErrArg},
	})
	for name, b := range badBrines() {
		checkPlays(t, []playCase{
			{name: name, b: b, e: api.ErrArg},
			{name: name + ", and long", b: b, l: long, e: api.ErrArg},
			{name: name + ", and short", b: b, l: []api.BrineEvent{good, short}, e: api.ErrArg},
		})
	}
}

// P2.1: 256 events can be played.
func TestPlayLongest(t *testing.T) {
	l := slices.Repeat([]api.BrineEvent{{Kind: api.Use, Heat: 1}}, api.MaxBrineEvents)
	if _, s := mustPlay(t, example(), l); s.Used != 256 || s.Bought != 56 {
		t.Error(s)
	}
}

// P2.2: all litres and all heat.
func TestTotal(t *testing.T) {
	end, _ := mustPlay(t, example(), exampleEvents())
	most := api.Brine{Tank: slug(api.MaxLitres, api.MaxHeat), Heat: api.MaxHeat, HeatRoom: api.MaxHeat}
	for range api.MaxPipes {
		most.Pipes = append(most.Pipes, pipe(api.MaxLitres, slices.Repeat([]api.Slug{slug(api.MaxLitres/api.MaxSlugs, api.MaxHeat)}, api.MaxSlugs)...))
	}
	for _, c := range []struct {
		name string
		b    api.Brine
		want api.Slug
	}{
		{"the example", example(), slug(160, 1440)},
		{"the end of the example", end, slug(145, 825)},
		{"nothing", line(slug(0, 0), pipe(1)), slug(0, 0)},
		{"stored only", api.Brine{Pipes: []api.Pipe{pipe(1)}, Heat: 5, HeatRoom: 5}, slug(0, 5)},
		{"all that can be", most, slug(9*api.MaxLitres, 130*api.MaxHeat)},
	} {
		if s, e := brine.Total(c.b); s != c.want || e != api.OK {
			t.Errorf("%s: %v, %d; want %v", c.name, s, e, c.want)
		}
	}
	for name, b := range badBrines() {
		if s, e := brine.Total(b); s != slug(0, 0) || e != api.ErrArg {
			t.Errorf("%s: %v, %d", name, s, e)
		}
	}
}
