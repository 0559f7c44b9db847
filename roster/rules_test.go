package roster_test

import (
	"math/rand"
	"reflect"
	"slices"
	"testing"

	"icehall/api"
	"icehall/roster"
)

// P11.5, R4: no argument is changed, with an error or without one, nor what lies behind its lists.
func TestArgumentsStay(t *testing.T) {
	rnd := rand.New(rand.NewSource(126))
	for range 1000 {
		room := append(anyEvents(rnd), join(0, 1, 1), hurt(0, 1))
		for i := range room {
			if room[i].Kind == api.Match {
				room[i].Sheet = append(slices.Clone(room[i].Sheet), 77, 78)
				room[i].Sheet = room[i].Sheet[:len(room[i].Sheet)-2]
			}
		}
		before := cloneEvents(room)
		sheets := make([][]int, len(room))
		for i, v := range room {
			sheets[i] = slices.Clone(v.Sheet[:cap(v.Sheet)])
		}
		l := room[:len(room)-2]
		day := 0
		if len(l) > 0 {
			day = l[len(l)-1].Day
		}
		roster.Play(l)
		for n := range 12 {
			roster.Why(l, n, day)
			roster.Able(l, n, day)
			roster.Back(l, n)
		}
		for i, v := range room {
			if !slices.Equal(v.Sheet[:cap(v.Sheet)], sheets[i]) {
				t.Fatal("a sheet was changed", v, sheets[i])
			}
			v.Sheet, before[i].Sheet = nil, nil
			if !reflect.DeepEqual(v, before[i]) {
				t.Fatal("an event was changed", v, before[i])
			}
		}
	}
}

// P11.5, R4: results are new memory: a change of one is seen in no other one, nor in an argument.
func TestResultsAreNew(t *testing.T) {
	l := append(example(), match(6, 3, 5), suspend(6, 5, 1), hurt(6, 5), join(6, 4, 3), join(6, 6, 3))
	given := cloneEvents(l)
	members := []api.Member{{Person: 4, Club: 3}, {Person: 5, Club: 3, Ban: 1, Stage: 1, Since: 6}, {Person: 6, Club: 3}, {Person: 7, Club: 2, Ban: 1}, {Person: 9, Club: 2, Stage: 2, Since: 5}}
	for range 3 {
		m, why, able := mustPlay(t, l), mustSay(t, l, 5, 6), mustName(t, l, 3, 6)
		if !slices.Equal(m, members) || !slices.Equal(why, []int{1, 2, 3}) || !slices.Equal(able, []int{4, 6}) {
			t.Fatal(m, why, able)
		}
		clear(m[:cap(m)])
		clear(why[:cap(why)])
		clear(able[:cap(able)])
		if !reflect.DeepEqual(l, given) {
			t.Fatal("a result shares memory", l)
		}
	}
	// What was returned earlier stays if the events are changed.
	m, why, able := mustPlay(t, l), mustSay(t, l, 5, 6), mustName(t, l, 3, 6)
	clear(l[7].Sheet)
	clear(l)
	if !slices.Equal(m, members) || !slices.Equal(why, []int{1, 2, 3}) || !slices.Equal(able, []int{4, 6}) {
		t.Error("a result shares memory", m, why, able)
	}
}

// R3: nil and empty lists are the same.
func TestNilAndEmpty(t *testing.T) {
	for _, l := range [][]api.RosterEvent{nil, {}} {
		if m, n, e := roster.Play(l); len(m) > 0 || n != 0 || e != api.OK {
			t.Error(m, n, e)
		}
		if why, e := roster.Why(l, 0, 0); len(why) > 0 || e != api.ErrNone {
			t.Error(why, e)
		}
		if able, e := roster.Able(l, 0, 0); len(able) > 0 || e != api.OK {
			t.Error(able, e)
		}
		if games, day, e := roster.Back(l, 0); games != 0 || day != 0 || e != api.ErrNone {
			t.Error(games, day, e)
		}
	}
	for _, sheet := range [][]int{nil, {}} {
		l := append(example(), match(6, 2, sheet...))
		for i := range l {
			l[i].Sheet = sheet
		}
		if m := mustPlay(t, l); len(m) != 3 || m[1] != (api.Member{Person: 7, Club: 2}) {
			t.Error(m)
		}
	}
}

// P11: the same call returns the same, whatever was called before: a season that is played again leaves the same.
func TestAgain(t *testing.T) {
	rnd := rand.New(rand.NewSource(127))
	first := mustPlay(t, example())
	for range 200 {
		other := anyEvents(rnd)
		roster.Play(other)
		roster.Why(other, 7, 6)
		roster.Able(other, 2, 6)
		roster.Back(other, 9)
		if m := mustPlay(t, example()); !slices.Equal(m, first) {
			t.Fatal(m)
		}
		if why := mustSay(t, example(), 7, 6); !slices.Equal(why, []int{1}) {
			t.Fatal(why)
		}
		if able := mustName(t, example(), 3, 6); !slices.Equal(able, []int{5}) {
			t.Fatal(able)
		}
		if games, day := mustWait(t, example(), 9); games != 0 || day != 10 {
			t.Fatal(games, day)
		}
	}
}

// wild returns an event of odd numbers, or of numbers that can be.
func wild(rnd *rand.Rand) api.RosterEvent {
	number := func() int { return odd[rnd.Intn(len(odd))] }
	v := api.RosterEvent{Day: number(), Kind: number(), Person: number(), N: number()}
	for rnd.Intn(2) == 0 {
		v.Sheet = append(v.Sheet, number())
	}
	if rnd.Intn(4) > 0 {
		v = api.RosterEvent{Day: 8 + rnd.Intn(3), Kind: rnd.Intn(7), Person: rnd.Intn(3)}
		if v.Kind == api.Match {
			v.Person = 0
		}
		if v.Kind == api.Suspend {
			v.N = 1
		}
	}
	return v
}

// P1, R2: whatever is given, each function ends without a panic, and returns nothing with an error but the index, which is the same for all of them.
func TestAnyArguments(t *testing.T) {
	rnd := rand.New(rand.NewSource(128))
	number := func() int { return odd[rnd.Intn(len(odd))] }
	seen := map[api.Errno]int{}
	for range 20000 {
		l := anySeason(rnd, rnd.Intn(4))
		for rnd.Intn(3) > 0 {
			l = append(l, wild(rnd))
		}
		index, f := told(l)
		m, n, e := roster.Play(l)
		if n != index || e != f || e != api.OK && len(m) > 0 {
			t.Fatalf("Play(%v): %v, %d, error %d, not %d, error %d", l, m, n, e, index, f)
		}
		seen[e]++
		why, w := roster.Why(l, number(), number())
		able, a := roster.Able(l, number(), number())
		games, day, b := roster.Back(l, number())
		if w != api.OK && len(why) > 0 || a != api.OK && len(able) > 0 || b != api.OK && (games != 0 || day != 0) {
			t.Fatal("something with an error", l, why, able, games, day)
		}
		if e != api.OK && (w != e || a != e || b != e) {
			t.Fatal("another error than the one of Play", l, e, w, a, b)
		}
	}
	for _, e := range []api.Errno{api.OK, api.ErrArg, api.ErrOrder, api.ErrNone, api.ErrTwice, api.ErrState} {
		if seen[e] < 150 {
			t.Errorf("error %d was seen only %d times", e, seen[e])
		}
	}
}

// P1, R7: as many members, and as many on sheets, as there can be.
func TestLongest(t *testing.T) {
	var l []api.RosterEvent
	for club := range 10 {
		l = append(l, crowd(api.MaxClub-club, api.MaxPerson-25*club-24, 25)...)
	}
	for club := range 6 {
		l = append(l, match(api.MaxDay, api.MaxClub-club, numbers(api.MaxPerson-25*club-24, 20)...))
	}
	if m := mustPlay(t, l); len(l) != 256 || len(m) != 250 || m[249] != (api.Member{Person: api.MaxPerson, Club: api.MaxClub}) {
		t.Error(len(l), m)
	}
	if able := mustName(t, l, api.MaxClub, api.MaxDay); !slices.Equal(able, numbers(api.MaxPerson-4, 5)) {
		t.Error(able)
	}
	l = append(crowd(0, 0, 5), slices.Repeat([]api.RosterEvent{suspend(0, 3, 20)}, 125)...)
	for day := range 126 {
		l = append(l, match(day, 0, 0, 1, 2, 4))
	}
	if games, day := mustWait(t, l, 3); games != 20*125-126 || day != 0 || len(l) != 256 {
		t.Error(games, day, len(l))
	}
}
