package brine_test

import (
	"math/rand"
	"slices"
	"testing"

	"icehall/api"
	"icehall/brine"
)

// P2.1: Play does what the document words, whatever happens.
func TestPlayAsWorded(t *testing.T) {
	rnd := rand.New(rand.NewSource(21))
	for range 1500 {
		b := anyBrine(rnd, 30)
		checkModel(t, b, anyEvents(rnd, b, 20))
	}
}

// P2.5: litres and heat are conserved, and each loss is named.
func TestConserved(t *testing.T) {
	rnd := rand.New(rand.NewSource(25))
	for range 1500 {
		b := anyBrine(rnd, 30)
		l := anyEvents(rnd, b, 20)
		end, s := mustPlay(t, b, l)
		checkConserved(t, b, end, s)
		first, e := brine.Total(b)
		last, f := brine.Total(end)
		if e != api.OK || f != api.OK || first != all(b) || last != all(end) {
			t.Fatal("Total", b, end, first, last, e, f)
		}
	}
}

// checkConserved compares what came with what is there or is named.
func checkConserved(t *testing.T, b, end api.Brine, s api.BrineSums) {
	t.Helper()
	first, last := all(b), all(end)
	if first.Volume+s.Filled.Volume != last.Volume+s.Leaked.Volume {
		t.Fatal("litres are not conserved", b, end, s)
	}
	if first.Heat+s.Filled.Heat+s.Warmed+s.Bought != last.Heat+s.Leaked.Heat+s.Air+s.Used {
		t.Fatal("heat is not conserved", b, end, s)
	}
}

// P2.5: pipes hold no more than their room, and their litres change only by what is pumped, leaks, or comes back.
func TestPipesHold(t *testing.T) {
	rnd := rand.New(rand.NewSource(255))
	for range 800 {
		b := anyBrine(rnd, 30)
		for _, v := range anyEvents(rnd, b, 20) {
			end, s := mustPlay(t, b, []api.BrineEvent{v})
			change := inPipes(end) - inPipes(b)
			want := -s.Leaked.Volume
			if v.Kind == api.Pump {
				back := end.Tank.Volume - (b.Tank.Volume - v.Amount)
				want = v.Amount - back
				if back < 0 || back > v.Amount {
					t.Fatal("more comes back than is pumped", b, v, end)
				}
			}
			if change != want {
				t.Fatal("litres of pipes", b, v, end, change, want)
			}
			for _, p := range end.Pipes {
				if litres(p.Slugs) > p.Room || len(p.Slugs) > api.MaxSlugs || slices.ContainsFunc(p.Slugs, func(s api.Slug) bool { return s.Volume < 1 || s.Heat < 0 }) {
					t.Fatal("a pipe", b, v, end)
				}
			}
			b = end
		}
	}
}

// inPipes returns the litres of all pipes.
func inPipes(b api.Brine) int {
	n := 0
	for _, p := range b.Pipes {
		n += litres(p.Slugs)
	}
	return n
}

// P2.6: what flows out of a pipe are its first litres, in their order. Each litre has heat by which it is known.
func TestFirstInFirstOut(t *testing.T) {
	rnd := rand.New(rand.NewSource(26))
	for range 1500 {
		b := line(slug(0, 0))
		var queues [][]int
		name := 0
		for range 1 + rnd.Intn(3) {
			p := pipe(1 + rnd.Intn(12))
			queues = append(queues, nil)
			b.Pipes = append(b.Pipes, p)
		}
		for range 12 {
			name++
			// The tank has nothing but what is pumped next, so each of its litres has the same heat.
			n := 1 + rnd.Intn(5)
			b.Tank = slug(n, n*name)
			l := []api.BrineEvent{pump(n)}
			in := slices.Repeat([]int{name}, n)
			for i := range queues {
				all := append(queues[i], in...)
				over := max(0, len(all)-b.Pipes[i].Room)
				in, queues[i] = slices.Clone(all[:over]), slices.Clone(all[over:])
			}
			back := 0
			for _, heat := range in {
				back += heat
			}
			b, _ = mustPlay(t, b, l)
			if b.Tank != slug(len(in), back) {
				t.Fatal("what comes back", b, in)
			}
			for i, p := range b.Pipes {
				if !slices.Equal(litreByLitre(p), queues[i]) {
					t.Fatal("what is in the pipe", i, b, queues)
				}
			}
		}
	}
}

// litreByLitre returns the heat of each litre of a pipe in which a slug's litres are all alike.
func litreByLitre(p api.Pipe) []int {
	var l []int
	for _, s := range p.Slugs {
		l = append(l, slices.Repeat([]int{s.Heat / s.Volume}, s.Volume)...)
	}
	return l
}

// P2.6: where heat is changes nothing of where litres are.
func TestHeatMovesNoLitres(t *testing.T) {
	rnd := rand.New(rand.NewSource(266))
	for range 800 {
		b := anyBrine(rnd, 30)
		l := anyEvents(rnd, b, 20)
		end, s := mustPlay(t, b, l)
		other := clone(b)
		other.Tank.Heat, other.Heat, other.HeatRoom = api.MaxHeat, 0, 0
		for _, p := range other.Pipes {
			for i := range p.Slugs {
				p.Slugs[i].Heat = rnd.Intn(api.MaxHeat + 1)
			}
		}
		// A tank that has less heat now could not be chilled, and what is chilled moves no litres.
		l = slices.DeleteFunc(l, func(v api.BrineEvent) bool { return v.Kind == api.Chill })
		for i := range l {
			l[i].Heat = rnd.Intn(api.MaxHeat + 1)
		}
		moved, sums := mustPlay(t, other, l)
		if !slices.EqualFunc(end.Pipes, moved.Pipes, sameLitres) || end.Tank.Volume != moved.Tank.Volume || s.Leaked.Volume != sums.Leaked.Volume {
			t.Fatal(b, l, end, moved)
		}
	}
}

// sameLitres returns whether two pipes have slugs of the same litres.
func sameLitres(p, q api.Pipe) bool {
	return slices.EqualFunc(p.Slugs, q.Slugs, func(a, b api.Slug) bool { return a.Volume == b.Volume })
}

// P2.7: events in two parts leave what they leave in one.
func TestTwoParts(t *testing.T) {
	rnd := rand.New(rand.NewSource(27))
	for range 1000 {
		b := anyBrine(rnd, 30)
		l := anyEvents(rnd, b, 20)
		whole, s := mustPlay(t, b, l)
		cut := rnd.Intn(len(l) + 1)
		middle, s1 := mustPlay(t, b, l[:cut])
		end, s2 := mustPlay(t, middle, l[cut:])
		if !same(end, whole) || addSums(s1, s2) != s {
			t.Fatal(b, l, cut, end, whole)
		}
	}
}

// addSums returns the sums of two parts together.
func addSums(a, b api.BrineSums) api.BrineSums {
	return api.BrineSums{
		Warmed:  a.Warmed + b.Warmed,
		Leaked:  slug(a.Leaked.Volume+b.Leaked.Volume, a.Leaked.Heat+b.Leaked.Heat),
		Filled:  slug(a.Filled.Volume+b.Filled.Volume, a.Filled.Heat+b.Filled.Heat),
		Chilled: a.Chilled + b.Chilled,
		Air:     a.Air + b.Air,
		Used:    a.Used + b.Used,
		Bought:  a.Bought + b.Bought,
	}
}

// R5: all is exact with the greatest numbers, too.
func TestGreatest(t *testing.T) {
	full := api.Brine{Tank: slug(api.MaxLitres, api.MaxHeat), Heat: api.MaxHeat, HeatRoom: api.MaxHeat}
	for range api.MaxPipes {
		full.Pipes = append(full.Pipes, pipe(api.MaxLitres, slices.Repeat([]api.Slug{slug(api.MaxLitres/api.MaxSlugs, api.MaxHeat)}, api.MaxSlugs)...))
	}
	warm := api.BrineEvent{Kind: api.Warm, Heat: api.MaxHeat}
	last := api.BrineEvent{Kind: api.Warm, Pipe: api.MaxPipes - 1, Heat: api.MaxHeat}
	gather := slices.Repeat([]api.BrineEvent{pump(api.MaxLitres)}, 9)
	for i, l := range [][]api.BrineEvent{
		slices.Concat(slices.Repeat([]api.BrineEvent{warm}, 246), gather, []api.BrineEvent{pump(api.MaxLitres - 1)}),
		slices.Concat(gather, slices.Repeat([]api.BrineEvent{last}, 246), []api.BrineEvent{pump(api.MaxLitres - 1)}),
		slices.Repeat([]api.BrineEvent{pump(api.MaxLitres - 1), warm, last}, 85),
		slices.Repeat([]api.BrineEvent{pump(12345), warm, {Kind: api.Leak, Pipe: 3, Amount: 99}, {Kind: api.Use, Heat: api.MaxHeat}}, 64),
		slices.Repeat([]api.BrineEvent{pump(api.MaxLitres), warm, {Kind: api.Chill, Heat: api.MaxHeat}}, 85),
	} {
		end, s := checkModel(t, full, l)
		if all(end).Heat < 0 {
			t.Error(i, end)
		}
		checkConserved(t, full, end, s)
	}
}

// R5: nearly all heat that can be, in one slug of nearly all litres.
func TestGreatestSlug(t *testing.T) {
	b := line(slug(api.MaxLitres, api.MaxHeat), pipe(api.MaxLitres, slug(api.MaxLitres, api.MaxHeat)))
	l := slices.Repeat([]api.BrineEvent{{Kind: api.Warm, Heat: api.MaxHeat}}, api.MaxBrineEvents-1)
	end, s := checkModel(t, b, append(l, pump(api.MaxLitres-1)))
	if end.Pipes[0].Slugs[0].Volume != 1 || end.Pipes[0].Slugs[0].Heat != 256*api.MaxHeat/api.MaxLitres {
		t.Error(end, s)
	}
}
