package roster_test

import (
	"math/rand"
	"slices"
	"testing"

	"icehall/api"
	"icehall/roster"
)

// clubOf returns the club of a member by what Play tells.
func clubOf(members []api.Member, person int) int {
	i := slices.IndexFunc(members, func(m api.Member) bool { return m.Person == person })
	return members[i].Club
}

// ofClub returns the events of a club: its matches, and what happens to its members.
func ofClub(l []api.RosterEvent, members []api.Member, club int) []api.RosterEvent {
	return slices.DeleteFunc(slices.Clone(l), func(v api.RosterEvent) bool {
		if v.Kind == api.Match {
			return v.N != club
		}
		return clubOf(members, v.Person) != club
	})
}

// P8, P11.6: nobody who is barred is on a sheet, and all who are on one are members of the club.
func TestNobodyBarredPlays(t *testing.T) {
	rnd := rand.New(rand.NewSource(116))
	seen := 0
	for range 1500 {
		l := anyEvents(rnd)
		n, _ := told(l)
		for i, v := range l[:n] {
			if v.Kind != api.Match {
				continue
			}
			able := mustName(t, l[:i], v.N, v.Day)
			for _, person := range v.Sheet {
				why := mustSay(t, l[:i], person, v.Day)
				if len(why) > 0 || !slices.Contains(able, person) {
					t.Fatalf("%v: %d is on the sheet of the event %d: %v", l, person, i, why)
				}
				seen++
			}
		}
	}
	if seen < 1000 {
		t.Error("too few were on sheets", seen)
	}
}

// P8, P11.6: nobody gets onto a sheet who is barred, whoever else is on it.
func TestBarredAreRefused(t *testing.T) {
	rnd := rand.New(rand.NewSource(117))
	seen := map[int]int{}
	for range 1500 {
		l := anySeason(rnd, 1+rnd.Intn(60))
		if len(l) == 0 {
			continue
		}
		day := l[len(l)-1].Day + rnd.Intn(2)
		for _, m := range mustPlay(t, l) {
			why := mustSay(t, l, m.Person, day)
			if len(why) == 0 {
				continue
			}
			sheet := append(mustName(t, l, m.Club, day), m.Person)
			slices.Sort(sheet)
			want := api.ErrRefuse
			if history(l).played(m.Club, day) {
				want = api.ErrTwice
			}
			if _, n, e := roster.Play(append(slices.Clone(l), match(day, m.Club, sheet...))); n != len(l) || e != want {
				t.Fatalf("%v: %d, who is barred by %v, plays on %d: %d, error %d", l, m.Person, why, day, n, e)
			}
			seen[why[0]]++
		}
	}
	for _, why := range []int{api.Banned, api.Unwell, api.Played} {
		if seen[why] < 100 {
			t.Errorf("%d was seen only %d times", why, seen[why])
		}
	}
}

// P11.6: a suspension ends just when the club has played so many games without the member.
func TestSuspensionEnds(t *testing.T) {
	rnd := rand.New(rand.NewSource(118))
	for range 400 {
		l := []api.RosterEvent{join(0, 1, 5), join(0, 2, 5), join(0, 3, 6)}
		games, left := 0, 0
		for day := 1; day < 60; day++ {
			if rnd.Intn(8) == 0 {
				n := 1 + rnd.Intn(6)
				l = append(l, suspend(day, 1, n))
				left += n
			}
			switch rnd.Intn(4) {
			case 0:
				l = append(l, match(day, 6, 3))
			case 1, 2:
				sheet := []int{2}
				if left == 0 {
					sheet = []int{1, 2}
				} else if _, _, e := roster.Play(append(slices.Clone(l), match(day, 5, 1))); e != api.ErrRefuse {
					t.Fatalf("%v: back with %d games left: error %d", l, left, e)
				}
				l = append(l, match(day, 5, sheet...))
				if left > 0 {
					left--
					games++
				}
			}
			if n, _ := mustWait(t, l, 1); n != left {
				t.Fatalf("%v: %d games, not %d", l, n, left)
			}
		}
		if games == 0 {
			t.Fatal("no game was served", l)
		}
	}
}

// P11.6: behind being hurt, or a symptom, nobody is on a sheet until LastStage days later at least.
func TestNobodyIsBackEarly(t *testing.T) {
	rnd := rand.New(rand.NewSource(119))
	least, seen := 1000, 0
	for range 1500 {
		l := anySeason(rnd, 80)
		mustPlay(t, l)
		since := map[int]int{}
		for _, v := range l {
			switch v.Kind {
			case api.Hurt, api.Symptom:
				since[v.Person] = v.Day
			case api.Match:
				for _, person := range v.Sheet {
					if day, ok := since[person]; ok {
						least = min(least, v.Day-day)
						seen++
					}
				}
			}
		}
	}
	if least != api.LastStage || seen < 100 {
		t.Errorf("back behind %d days, of %d", least, seen)
	}
}

// P11.6: with a Pass on each day, and a Clear behind them, a member is cleared on the day that Back tells.
func TestBackOnTheDay(t *testing.T) {
	rnd := rand.New(rand.NewSource(120))
	seen := 0
	for range 800 {
		l := anySeason(rnd, 1+rnd.Intn(50))
		for _, m := range mustPlay(t, l) {
			_, day := mustWait(t, l, m.Person)
			last := l[len(l)-1].Day
			// Only who was on a stage just now can pass one on each day.
			if m.Stage == 0 || m.Since < last {
				continue
			}
			back := append(append(slices.Clone(l), passes(last+1, m.Person, api.LastStage-m.Stage)...), clearing(day, m.Person), match(day, m.Club))
			mustPlay(t, back)
			if why := mustSay(t, back, m.Person, day); slices.Contains(why, api.Unwell) {
				t.Fatalf("%v: %d is not cleared: %v", back, m.Person, why)
			}
			seen++
		}
	}
	if seen < 100 {
		t.Error("too few came back", seen)
	}
}

// P11.6: no way back is shorter than the one that Back tells, whatever is tried on each day.
func TestBackOnNoEarlierDay(t *testing.T) {
	rnd := rand.New(rand.NewSource(121))
	onTime := 0
	for range 3000 {
		start := append([]api.RosterEvent{join(0, 1, 1), hurt(0, 1)}, passes(1, 1, rnd.Intn(6))...)
		_, day := mustWait(t, start, 1)
		l := slices.Clone(start)
		for now := l[len(l)-1].Day; len(mustSay(t, l, 1, now)) > 0; now += rnd.Intn(20) / 19 {
			v := pass(now, 1)
			if rnd.Intn(2) == 0 {
				v = clearing(now, 1)
			}
			if next := append(slices.Clone(l), v); len(next) > 100 {
				break
			} else if _, _, e := roster.Play(next); e == api.OK {
				l = next
			}
		}
		if last := l[len(l)-1]; last.Kind != api.Clear || last.Day < day {
			t.Fatalf("%v: cleared ahead of the day %d", l, day)
		} else if last.Day == day {
			onTime++
		}
	}
	if onTime < 300 {
		t.Error("too few were cleared on the day", onTime)
	}
}

// P11.6: whoever Able names can be on a sheet of this day, if the club has no match on it; nobody else can.
func TestAblePlay(t *testing.T) {
	rnd := rand.New(rand.NewSource(122))
	seen := 0
	for range 800 {
		l := anySeason(rnd, 1+rnd.Intn(50))
		if len(l) == 0 {
			continue
		}
		day := l[len(l)-1].Day + rnd.Intn(2)
		for club := range 3 {
			if history(l).played(club, day) {
				continue
			}
			able := mustName(t, l, club, day)
			mustPlay(t, append(slices.Clone(l), match(day, club, able...)))
			for person := range 12 {
				_, _, e := roster.Play(append(slices.Clone(l), match(day, club, person)))
				if can := e == api.OK; can != slices.Contains(able, person) {
					t.Fatalf("%v: %d of the club %d on %d: error %d, able are %v", l, person, club, day, e, able)
				}
			}
			seen += len(able)
		}
	}
	if seen < 1000 {
		t.Error("too few were able", seen)
	}
}

// P11.6: all that Able names can be on a sheet if they are 20; if they are more, each 20 of them can.
func TestManyAble(t *testing.T) {
	l := append(crowd(1, 40, 25), suspend(0, 50, 1))
	able := mustName(t, l, 1, 0)
	if !slices.Equal(able, slices.Concat(numbers(40, 10), numbers(51, 14))) {
		t.Fatal(able)
	}
	for i := range 5 {
		mustPlay(t, append(slices.Clone(l), match(0, 1, able[i:i+20]...)))
	}
	refused(t, l, match(0, 1, able...))
	refused(t, l, match(0, 1, able[:21]...))
}

// P11.6: what happens to members of other clubs makes no difference.
func TestOtherClubs(t *testing.T) {
	rnd := rand.New(rand.NewSource(123))
	seen := 0
	for range 800 {
		l := anySeason(rnd, 1+rnd.Intn(60))
		all := mustPlay(t, l)
		for club := range 3 {
			alone := ofClub(l, all, club)
			own := slices.DeleteFunc(slices.Clone(all), func(m api.Member) bool { return m.Club != club })
			if m := mustPlay(t, alone); !slices.Equal(m, own) {
				t.Fatalf("%v: the club %d alone: %v, not %v", l, club, m, own)
			}
			if len(own) == 0 {
				continue
			}
			day := l[len(l)-1].Day
			if a, b := mustName(t, alone, club, day), mustName(t, l, club, day); !slices.Equal(a, b) {
				t.Fatalf("%v: the club %d alone: %v, not %v", l, club, a, b)
			}
			for _, m := range own {
				if a, b := mustSay(t, alone, m.Person, day), mustSay(t, l, m.Person, day); !slices.Equal(a, b) {
					t.Fatalf("%v: %d: %v, not %v", l, m.Person, a, b)
				}
				g, d := mustWait(t, alone, m.Person)
				if games, day := mustWait(t, l, m.Person); games != g || day != d {
					t.Fatalf("%v: %d: %d, %d, not %d, %d", l, m.Person, games, day, g, d)
				}
			}
			seen++
		}
	}
	if seen < 300 {
		t.Error("too few clubs", seen)
	}
}

// P11.6: events that are accepted stay so if some are left out behind them.
func TestFirstOnes(t *testing.T) {
	rnd := rand.New(rand.NewSource(124))
	for range 800 {
		l := anyEvents(rnd)
		_, n, _ := roster.Play(l)
		for i := range n + 1 {
			mustPlay(t, l[:i])
		}
	}
}

// P11: in which order the events of several clubs come on a day makes no difference.
func TestOrderOfClubs(t *testing.T) {
	rnd := rand.New(rand.NewSource(125))
	moved := 0
	for range 800 {
		l := anySeason(rnd, 1+rnd.Intn(60))
		want := mustPlay(t, l)
		club := func(v api.RosterEvent) int {
			if v.Kind == api.Match {
				return v.N
			}
			return clubOf(want, v.Person)
		}
		for _, sign := range []int{1, -1} {
			other := slices.Clone(l)
			slices.SortStableFunc(other, func(a, b api.RosterEvent) int {
				if a.Day != b.Day {
					return a.Day - b.Day
				}
				return sign * (club(a) - club(b))
			})
			if m := mustPlay(t, other); !slices.Equal(m, want) {
				t.Fatalf("%v: %v, not %v", other, m, want)
			}
			if len(l) > 0 && club(l[0]) != club(other[0]) {
				moved++
			}
		}
	}
	if moved < 100 {
		t.Error("too few events were moved", moved)
	}
}
