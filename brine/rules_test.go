package brine_test

import (
	"math/rand"
	"slices"
	"testing"

	"icehall/api"
	"icehall/brine"
)

// R4: no argument is changed, with an error or without one.
func TestArgumentsStay(t *testing.T) {
	for _, l := range [][]api.BrineEvent{
		nil, exampleEvents(),
		{{Kind: api.Warm, Heat: 50}, {Kind: api.Warm, Pipe: 1, Heat: 50}, pump(7), {Kind: api.Leak, Amount: 7}},
		{{Kind: api.Warm, Heat: 50}, pump(30), {Kind: api.Leak, Amount: 3}, {Kind: 9}},
		{{Kind: api.Leak, Amount: 99}, pump(30), pump(99)},
		{pump(30), {Kind: api.Fill, Amount: api.MaxLitres}},
	} {
		b, list := example(), slices.Clone(l)
		for i, p := range b.Pipes {
			// Slugs behind the list must not be written to either.
			b.Pipes[i].Slugs = append(slices.Grow(p.Slugs, 20), slug(77, 77))[:len(p.Slugs)]
		}
		brine.Play(b, list)
		brine.Total(b)
		if !same(b, example()) || !slices.Equal(list, l) {
			t.Error("an argument was changed", b, list)
		}
		for _, p := range b.Pipes {
			if n := len(p.Slugs); p.Slugs[:n+1][n] != slug(77, 77) {
				t.Error("the memory behind an argument was changed", b)
			}
		}
	}
	comes, needs := []int{100, 50, 0, 30}, []int{20, 20, 80, 40}
	brine.Reuse(comes, needs, 10, 60)
	brine.Room(comes, needs, 10, 10)
	if !slices.Equal(comes, []int{100, 50, 0, 30}) || !slices.Equal(needs, []int{20, 20, 80, 40}) {
		t.Error("an argument was changed", comes, needs)
	}
}

// R4: a result is new memory, and no two lists of it share any.
func TestResultsAreNew(t *testing.T) {
	for _, l := range [][]api.BrineEvent{nil, exampleEvents(), exampleEvents()[:1]} {
		b := example()
		one, _ := mustPlay(t, b, l)
		two, _ := mustPlay(t, b, l)
		want := clone(two)
		for i, p := range one.Pipes {
			spoil(p.Slugs)
			if i > 0 && !same(api.Brine{Pipes: one.Pipes[i:]}, api.Brine{Pipes: append([]api.Pipe{p}, want.Pipes[i+1:]...)}) {
				t.Error("two pipes share memory", one)
			}
			one.Pipes[i] = api.Pipe{}
		}
		if !same(b, example()) || !same(two, want) {
			t.Error("the pipes of Play share memory", b, two)
		}
		for i, p := range b.Pipes {
			spoil(p.Slugs)
			b.Pipes[i] = api.Pipe{}
		}
		if !same(two, want) {
			t.Error("the pipes of Play share memory with the brine", two)
		}
	}
	comes, needs := []int{1, 2}, []int{3, 4}
	bought, _, _, _ := brine.Reuse(comes, needs, 0, 0)
	bought[0], bought[1] = 99, 99
	if !slices.Equal(comes, []int{1, 2}) || !slices.Equal(needs, []int{3, 4}) {
		t.Error("what Reuse returns shares memory", comes, needs)
	}
}

// spoil writes over all of a list, and over what it could grow into.
func spoil(l []api.Slug) {
	l = l[:cap(l)]
	for i := range l {
		l[i] = slug(-1, -1)
	}
}

// R4: pipes that share a list of slugs in the argument are pipes of their own.
func TestSharedSlugs(t *testing.T) {
	l := []api.Slug{slug(3, 9), slug(2, 4)}
	shared := line(slug(9, 9), pipe(5, l...), pipe(5, l...))
	shared.Pipes[0].Slugs, shared.Pipes[1].Slugs = l, l
	events := []api.BrineEvent{{Kind: api.Warm, Heat: 10}, pump(4), {Kind: api.Leak, Pipe: 1, Amount: 1}}
	got, _ := mustPlay(t, shared, events)
	want, _ := mustPlay(t, clone(shared), events)
	if !same(got, want) || !slices.Equal(l, []api.Slug{slug(3, 9), slug(2, 4)}) {
		t.Error(got, want, l)
	}
}

// R3: nil and empty lists are the same.
func TestNilAndEmpty(t *testing.T) {
	none := line(slug(9, 9), api.Pipe{Room: 5}, api.Pipe{Room: 5})
	empty := line(slug(9, 9), api.Pipe{Room: 5, Slugs: []api.Slug{}}, api.Pipe{Room: 5, Slugs: []api.Slug{}})
	for _, l := range [][]api.BrineEvent{nil, {}, {pump(7)}} {
		a, _ := mustPlay(t, none, l)
		b, _ := mustPlay(t, empty, l)
		if !same(a, b) {
			t.Error(a, b)
		}
	}
	if b, left, air, e := brine.Reuse(nil, []int{}, 3, 4); len(b) != 0 || left != 3 || air != 0 || e != api.OK {
		t.Error(b, left, air, e)
	}
}

// P11: the same call returns the same, whatever was called before.
func TestAgain(t *testing.T) {
	first, s := mustPlay(t, example(), exampleEvents())
	brine.Play(example(), []api.BrineEvent{pump(30), pump(api.MaxLitres)})
	brine.Play(api.Brine{}, nil)
	again, sums := mustPlay(t, example(), exampleEvents())
	if !same(first, again) || s != sums {
		t.Error(first, again)
	}
}

// P1 and R2: whatever is given, each function ends without a panic, and with an error nothing else is returned.
func TestAnyArguments(t *testing.T) {
	rnd := rand.New(rand.NewSource(2))
	number := func() int { return odd[rnd.Intn(len(odd))] }
	for range 30000 {
		b := example()
		switch rnd.Intn(6) {
		case 0:
			b.Tank = slug(number(), number())
		case 1:
			b.Pipes[rnd.Intn(2)] = pipe(number(), slug(number(), number()))
		case 2:
			b.Heat, b.HeatRoom = number(), number()
		}
		l := []api.BrineEvent{{Kind: rnd.Intn(8) - 1, Pipe: number(), Amount: number(), Heat: number()}, {Kind: rnd.Intn(6), Pipe: rnd.Intn(2), Amount: number(), Heat: number()}}
		end, s, n, e := brine.Play(b, l)
		if e != api.OK && (!same(end, api.Brine{}) || s != api.BrineSums{} || n < 0 || n >= len(l)) {
			t.Fatal("Play", b, l, end, s, n, e)
		}
		if e == api.OK && n != len(l) {
			t.Fatal("Play", b, l, n)
		}
		if s, e := brine.Total(b); e != api.OK && s != slug(0, 0) {
			t.Fatal("Total", b, s, e)
		}
		comes, needs, start := []int{number(), 1}, []int{1, number()}, number()
		if bought, left, air, e := brine.Reuse(comes, needs, start, number()); e != api.OK && (len(bought) != 0 || left != 0 || air != 0) {
			t.Fatal("Reuse", comes, needs, bought, left, air, e)
		}
		if n, e := brine.Room(comes, needs, start, number()); e != api.OK && n != 0 {
			t.Fatal("Room", comes, needs, n, e)
		}
	}
}
