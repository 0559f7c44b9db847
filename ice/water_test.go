package ice_test

import (
	"math"
	"math/rand"
	"testing"

	"icehall/api"
	"icehall/ice"
)

// waterCase is a call of Water and its results.
type waterCase struct {
	name                string
	rink                []api.Zone
	worn, planed        api.Span
	passes, least, most int
	want                api.Span
	e                   api.Errno
}

func checkWater(t *testing.T, cases []waterCase) {
	t.Helper()
	for _, c := range cases {
		w, e := ice.Water(c.rink, c.worn, c.planed, c.passes, c.least, c.most)
		if w != c.want || e != c.e {
			t.Errorf("%s: %v, %d; want %v, %d", c.name, w, e, c.want, c.e)
		}
	}
}

// P1.5: the amounts with which the ice keeps.
func TestWater(t *testing.T) {
	r, none := example(), span(0, 0)
	worn, planed := span(20, 50), span(100, 150)
	all := span(api.MaxIce, api.MaxIce)
	bare := []api.Zone{{}}
	thick := []api.Zone{{Ice: all}}
	checkWater(t, []waterCase{
		{"the document's example", r, worn, planed, 3, 2700, 3350, span(167, 170), api.OK},
		{"the document's example with less room", r, worn, planed, 3, 2700, 3300, none, api.ErrNone},
		{"1 pass", r, worn, planed, 1, 2700, 3300, span(100, 220), api.OK},
		{"just one amount", r, worn, planed, 3, 2701, 3341, span(167, 167), api.OK},
		{"just none", r, worn, planed, 3, 2701, 3340, none, api.ErrNone},
		{"100 passes of just what is taken", []api.Zone{{Ice: span(900, 1000)}}, span(3, 3), span(7, 7), 100, 900, 1000, span(10, 10), api.OK},
		{"100 passes that take too much", []api.Zone{{Ice: span(900, 1000)}}, span(3, 4), span(7, 7), 100, 900, 1000, none, api.ErrNone},
		{"99 passes", []api.Zone{{Ice: span(1000, 1000)}}, span(1, 1), none, 99, 901, 2000, span(0, 11), api.OK},
		{"100 passes", []api.Zone{{Ice: span(1000, 1000)}}, span(1, 1), none, 100, 901, 2000, span(1, 11), api.OK},
		{"nothing is taken", r, none, none, 1, 0, api.MaxIce, span(0, 16800), api.OK},
		{"all is taken", r, none, all, 2, 0, api.MaxIce, span(0, api.MaxIce), api.OK},
		{"all is taken, and is frozen anew", r, none, all, 2, 9, 20, span(9, 20), api.OK},
		{"all is worn, and is frozen anew", r, all, none, 2, 9, 20, span(9, 20), api.OK},
		{"all is worn, and there is nothing to plane", thick, all, all, 5, 9, 20, span(9, 20), api.OK},
		{"more is asked for than can be frozen", thick, span(0, api.MaxIce), span(0, api.MaxIce), 2, 1, api.MaxIce, none, api.ErrNone},
		{"as much as can be", bare, none, none, 1, api.MaxIce, api.MaxIce, all, api.OK},
		{"no ice at all", bare, none, none, 100, 0, 0, none, api.OK},
		{"too thick from the start", thick, none, none, 1, 0, api.MaxIce - 1, none, api.ErrNone},
		{"thick from the start, and planed", thick, none, span(5, 5), 1, 0, api.MaxIce - 1, span(0, 4), api.OK},
		{"thin from the start, and flooded", bare, none, none, 1, 7, 9, span(7, 9), api.OK},
		{"the thin zone and the thick zone decide", []api.Zone{{Ice: span(50, 50)}, {Ice: span(10, 10)}, {Ice: span(90, 90)}}, none, none, 1, 20, 120, span(10, 30), api.OK},
	})
}

// P1.5 and R1: ErrArg of the rink and the spans, then ErrRange.
func TestWaterArguments(t *testing.T) {
	good, none := span(0, 1), span(0, 0)
	ranges := [][3]int{
		{0, 0, 9}, {-1, 0, 9}, {101, 0, 9}, {math.MinInt, 0, 9}, {math.MaxInt, 0, 9},
		{1, -1, 9}, {1, 10, 9}, {1, math.MinInt, 9}, {1, math.MaxInt, 9},
		{1, 0, api.MaxIce + 1}, {1, 0, math.MaxInt}, {1, 0, -1}, {1, math.MinInt, math.MinInt},
	}
	for _, c := range ranges {
		checkWater(t, []waterCase{{"a range", example(), good, good, c[0], c[1], c[2], none, api.ErrRange}})
	}
	for _, c := range append(ranges, [3]int{1, 0, 9}) {
		for _, s := range []api.Span{span(2, 1), span(-1, 1), span(0, api.MaxIce+1), span(math.MinInt, math.MaxInt), span(math.MaxInt, math.MinInt)} {
			checkWater(t, []waterCase{
				{"worn", example(), s, good, c[0], c[1], c[2], none, api.ErrArg},
				{"planed", example(), good, s, c[0], c[1], c[2], none, api.ErrArg},
			})
		}
		for name, r := range badRinks() {
			checkWater(t, []waterCase{{name, r, good, good, c[0], c[1], c[2], none, api.ErrArg}})
		}
	}
}

// P1.9: the ice keeps with each amount that Water tells, whatever is worn and planed, and may not with any other one.
func TestWaterTrue(t *testing.T) {
	rnd := rand.New(rand.NewSource(9))
	told := 0
	for range 1500 {
		r := []api.Zone{{Ice: anySpan(rnd, 0, 20, 3)}, {Ice: anySpan(rnd, 0, 20, 3)}}
		worn, planed := anySpan(rnd, 0, 4, 2), anySpan(rnd, 0, 8, 2)
		passes, least := 1+rnd.Intn(3), rnd.Intn(20)
		most := least + rnd.Intn(20)
		got, e := ice.Water(r, worn, planed, passes, least, most)
		if e == api.OK {
			told++
		}
		for water := 0; water <= most+1; water++ {
			want := keepsWith(r, worn, planed, water, passes, least, most)
			if is := e == api.OK && inside(water, got); is != want {
				t.Fatal(r, worn, planed, passes, least, most, got, e, water, want)
			}
		}
		if e == api.OK && got.Hi > most {
			t.Fatal("more than the most", r, worn, planed, passes, least, most, got)
		}
	}
	if told < 100 {
		t.Fatal("hardly any amount was told", told)
	}
}

// keepsWith follows each thickness that a zone can truly have.
func keepsWith(r []api.Zone, worn, planed api.Span, water, passes, least, most int) bool {
	for _, z := range r {
		can := map[int]bool{}
		for x := z.Ice.Lo; x <= z.Ice.Hi; x++ {
			can[x] = true
		}
		for range passes {
			next := map[int]bool{}
			for x := range can {
				for a := worn.Lo; a <= worn.Hi; a++ {
					for b := planed.Lo; b <= planed.Hi; b++ {
						next[max(0, max(0, x-a)-b)+water] = true
					}
				}
			}
			for x := range next {
				if x < least || x > most {
					return false
				}
			}
			can = next
		}
	}
	return true
}

// P1.9 beyond small numbers: at the ends of what Water tells, played by Play.
func TestWaterEnds(t *testing.T) {
	rnd := rand.New(rand.NewSource(19))
	told := 0
	for range 600 {
		r := []api.Zone{{Ice: anySpan(rnd, 2000, 9000, 300)}, {Ice: anySpan(rnd, 2000, 9000, 300)}, {Ice: anySpan(rnd, 0, 9000, 300)}}
		worn, planed := anySpan(rnd, 0, 300, 30), anySpan(rnd, 0, 900, 30)
		passes, least := 1+rnd.Intn(20), rnd.Intn(3000)
		most := least + 4000 + rnd.Intn(10000)
		got, e := ice.Water(r, worn, planed, passes, least, most)
		if e != api.OK {
			continue
		}
		told++
		for _, water := range []int{got.Lo - 1, got.Lo, (got.Lo + got.Hi) / 2, got.Hi, got.Hi + 1} {
			if water < 0 || water > api.MaxIce {
				continue
			}
			pass := []api.IceEvent{{Kind: api.Skate, To: 2, Amount: worn}, {Kind: api.Plane, To: 2, Amount: planed}, {Kind: api.Flood, To: 2, Amount: span(water, water)}}
			_, _, e := ice.Keeps(r, pass, passes, least, most)
			if keeps := e == api.ErrNone; keeps != inside(water, got) {
				t.Fatal(r, worn, planed, passes, least, most, got, water, e)
			}
		}
	}
	if told < 50 {
		t.Fatal("hardly any amount was told", told)
	}
}
