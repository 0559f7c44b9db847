package clock_test

import (
	"math/rand"
	"reflect"
	"slices"
	"testing"

	"icehall/api"
	"icehall/clock"
)

// long returns events behind which each team has three penalties and two misconducts.
func long() []api.ClockEvent {
	l := []api.ClockEvent{start(0), stop(5)}
	for team := range 2 {
		l = append(l, give(api.ClockDouble, 5, team, 1), give(api.ClockMajor, 5, team, 2), give(api.ClockMisconduct, 5, team, 1), give(api.ClockMisconduct, 5, team, 2))
	}
	return append(l, start(5), goal(15, 1))
}

// lists returns all lists of a board.
func lists(b api.Board) [][]api.Penalty {
	return [][]api.Penalty{b.Penalties[0], b.Misconducts[0], b.Penalties[1], b.Misconducts[1]}
}

// R4: no argument is changed, with an error or without one.
func TestArgumentsStay(t *testing.T) {
	rnd := rand.New(rand.NewSource(104))
	for range 500 {
		l := anyEvents(rnd)
		given := slices.Clone(l)
		for i := range len(l) + 1 {
			clock.Without(l, i)
		}
		clock.Play(l)
		clock.At(l, 500)
		clock.Strengths(l, 500)
		b, _ := clock.At(anyGame(rnd, 30), 900)
		before := cloneBoard(b)
		clock.Whole(b, 0)
		clock.Whole(b, 1)
		if !slices.Equal(l, given) || !reflect.DeepEqual(b, before) {
			t.Fatal("an argument was changed", l, given, b, before)
		}
	}
	// Penalties behind the list must not be written to either.
	room := append(make([]api.Penalty, 0, 9), minor(1, 30), minor(2, 50), minor(3, 70), minor(4, 90))
	b := api.Board{Penalties: penalties(room[:3], room[:2])}
	clock.Whole(b, 0)
	clock.Whole(b, 1)
	if !slices.Equal(room, []api.Penalty{minor(1, 30), minor(2, 50), minor(3, 70), minor(4, 90)}) {
		t.Error("the memory of a board was changed", room)
	}
}

// R4: results are new memory: a change of one is seen in no other one, nor in an argument, and no two lists of one share any.
func TestResultsAreNew(t *testing.T) {
	l := long()
	want := api.Board{
		Played: 15, Goals: [2]int{0, 1},
		Penalties:   penalties([]api.Penalty{minor(1, 110), minor(1, 120), major(2, 290)}, []api.Penalty{minor(1, 110), minor(1, 120), major(2, 290)}),
		Misconducts: penalties([]api.Penalty{misconduct(1, 590), misconduct(2, 590)}, []api.Penalty{misconduct(1, 590), misconduct(2, 590)}),
	}
	whistle := cloneBoard(want)
	whistle.Goals[1] = 0
	for range 3 {
		one := mustPlay(t, l)
		other := mustSee(t, l, 20)
		without, e := clock.Without(l, len(l)-1)
		s := mustHave(t, l, 20)
		if !same(one, want) || !same(other, want) || !same(without, whistle) || e != api.OK || !slices.Equal(s, []api.Strength{from(0, 5, 5), from(5, 3, 3)}) {
			t.Fatal(one, other, without, s)
		}
		for _, b := range []api.Board{one, without} {
			for i, list := range lists(b) {
				list = list[:cap(list)]
				for k := range list {
					list[k] = minor(77, 77)
				}
				for _, later := range lists(b)[i+1:] {
					if slices.Contains(later, minor(77, 77)) {
						t.Fatal("two lists share memory", b)
					}
				}
			}
		}
		if !same(other, want) || !slices.Equal(l, long()) {
			t.Fatal("a result shares memory", other, l)
		}
		clear(s[:cap(s)])
	}
}

// R3: nil and empty lists are the same.
func TestNilAndEmpty(t *testing.T) {
	for _, l := range [][]api.ClockEvent{nil, {}} {
		if b, n, e := clock.Play(l); !same(b, api.Board{}) || n != 0 || e != api.OK {
			t.Error(b, n, e)
		}
		if b, e := clock.At(l, 7); !same(b, api.Board{}) || e != api.OK {
			t.Error(b, e)
		}
		if s, e := clock.Strengths(l, 7); len(s) > 0 || e != api.OK {
			t.Error(s, e)
		}
		if b, e := clock.Without(l, 0); !same(b, api.Board{}) || e != api.ErrRange {
			t.Error(b, e)
		}
	}
	for _, b := range []api.Board{{}, {Penalties: penalties([]api.Penalty{}, []api.Penalty{})}} {
		if n, e := clock.Whole(b, 1); n != 0 || e != api.OK {
			t.Error(n, e)
		}
	}
}

// P11: the same call returns the same, whatever was called before.
func TestAgain(t *testing.T) {
	rnd := rand.New(rand.NewSource(105))
	for range 50 {
		other := anyEvents(rnd)
		clock.Play(other)
		clock.At(other, 100)
		clock.Strengths(other, 100)
		want := api.Board{Played: 130, Goals: [2]int{0, 1}, Penalties: penalties([]api.Penalty{minor(9, 20), minor(8, 70)}, nil)}
		if b := mustPlay(t, example()); !same(b, want) {
			t.Error(b)
		}
		if s := mustHave(t, example(), 260); !slices.Equal(s, []api.Strength{from(0, 5, 5), from(30, 3, 5)}) {
			t.Error(s)
		}
	}
}

// P1, R2: whatever is given, each function ends without a panic, and returns nothing with an error but the index.
func TestAnyArguments(t *testing.T) {
	rnd := rand.New(rand.NewSource(106))
	number := func() int { return odd[rnd.Intn(len(odd))] }
	seen := map[api.Errno]int{}
	for range 20000 {
		l := anyGame(rnd, rnd.Intn(6))
		for rnd.Intn(3) == 0 {
			l = append(l, api.ClockEvent{Kind: number(), Second: number(), Team: number(), Player: number()})
		}
		b, n, e := clock.Play(l)
		seen[e]++
		if e != api.OK && (!same(b, api.Board{}) || n < 0 || n >= len(l)) || e == api.OK && n != len(l) {
			t.Fatal("Play", l, b, n, e)
		}
		if b, e := clock.At(l, number()); e != api.OK && !same(b, api.Board{}) {
			t.Fatal("At", l, b, e)
		}
		if s, e := clock.Strengths(l, number()); e != api.OK && len(s) > 0 {
			t.Fatal("Strengths", l, s, e)
		}
		if b, e := clock.Without(l, number()); e != api.OK && !same(b, api.Board{}) {
			t.Fatal("Without", l, b, e)
		}
		for team := range 2 {
			for rnd.Intn(2) == 0 {
				b.Penalties[team] = append(b.Penalties[team], api.Penalty{Player: number(), Kind: number(), Left: number()})
			}
		}
		if n, e := clock.Whole(b, number()); e != api.OK && n != 0 || n < 0 {
			t.Fatal("Whole", b, n, e)
		}
	}
	for _, e := range []api.Errno{api.OK, api.ErrArg, api.ErrOrder, api.ErrState} {
		if seen[e] < 150 {
			t.Errorf("error %d was seen only %d times", e, seen[e])
		}
	}
}

// P1, R7: the longest lists that there can be, with all penalties on one team.
func TestLongest(t *testing.T) {
	var l []api.ClockEvent
	for range api.MaxClockEvents - 1 {
		l = append(l, give(api.ClockDouble, 0, 1, api.MaxPerson))
	}
	b := mustPlay(t, append(l, start(api.MaxSeconds)))
	if len(b.Penalties[1]) != 510 || !b.Runs {
		t.Error(len(b.Penalties[1]), b.Runs)
	}
	if n, e := clock.Whole(b, 1); n != 0 || e != api.ErrArg {
		t.Error("more penalties than a board may have:", n, e)
	}
	l[0] = start(0)
	for i := 1; i < len(l); i++ {
		l[i] = give(api.ClockMinor, api.MaxSeconds-1, 0, i%3)
	}
	l = append(l, start(api.MaxSeconds-1))
	if b := mustSee(t, l, api.MaxSeconds); b.Period != 1 || b.Played != 1 || len(b.Penalties[0]) != 254 || seconds(b.Penalties[0]) != 254*120-2 {
		t.Error(b.Period, b.Played, len(b.Penalties[0]), seconds(b.Penalties[0]))
	}
	if n := mustWait(t, mustPlay(t, l), 0); n != 254/2*120 {
		t.Error(n)
	}
}
