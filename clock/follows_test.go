package clock_test

import (
	"math/rand"
	"slices"
	"testing"

	"icehall/api"
)

// missing returns how many players are missing by a list of penalties: two at most, whoever else waits.
func missing(l []api.Penalty) int {
	players := map[int]bool{}
	for _, p := range l {
		players[p.Player] = true
	}
	return min(2, len(players))
}

// seconds returns how many seconds are left of a list of penalties.
func seconds(l []api.Penalty) int {
	all := 0
	for _, p := range l {
		all += p.Left
	}
	return all
}

// gone returns what is taken out of a list to get another one, which has nothing that the first one does not have.
func gone(t *testing.T, before, now []api.Penalty) []api.Penalty {
	t.Helper()
	var out []api.Penalty
	for _, p := range before {
		if len(now) > 0 && now[0] == p {
			now = now[1:]
			continue
		}
		out = append(out, p)
	}
	if len(now) > 0 {
		t.Fatalf("%v was not in %v", now, before)
	}
	return out
}

// played returns how many seconds of the game were played.
func played(b api.Board) int { return api.PeriodLength*b.Period + b.Played }

// P9.6: the seconds that were given are those that were served, those that a goal ended, and those that are left. What was served is counted by the strengths.
func TestAllSeconds(t *testing.T) {
	rnd := rand.New(rand.NewSource(97))
	ends := 0
	for range 1000 {
		l := anyGame(rnd, 1+rnd.Intn(120))
		b := mustPlay(t, l)
		var open [2]int
		for i, v := range l {
			switch v.Kind {
			case api.ClockMinor:
				open[v.Team] += 120
			case api.ClockDouble:
				open[v.Team] += 240
			case api.ClockMajor:
				open[v.Team] += 300
			case api.ClockGoal:
				other := 1 - v.Team
				n := seconds(gone(t, mustSee(t, l[:i], v.Second).Penalties[other], mustPlay(t, l[:i+1]).Penalties[other]))
				open[other] -= n
				ends += n
			}
		}
		if len(l) > 0 {
			all := mustHave(t, l, l[len(l)-1].Second)
			for i, s := range all {
				next := played(b)
				if i+1 < len(all) {
					next = all[i+1].Second
				}
				for team, players := range s.Players {
					if players < 3 || players > 5 {
						t.Fatalf("%v: the strength %d", l, players)
					}
					open[team] -= (5 - players) * (next - s.Second)
				}
			}
		}
		if open != [2]int{seconds(b.Penalties[0]), seconds(b.Penalties[1])} {
			t.Fatalf("%v: %v, but %v are left", l, b, open)
		}
	}
	if ends < 50_000 {
		t.Error("goals ended too few seconds", ends)
	}
}

// P9.6: all misconducts run down while the clock runs, and end with nothing.
func TestAllMisconducts(t *testing.T) {
	rnd := rand.New(rand.NewSource(98))
	some := 0
	for range 1000 {
		l := anyGame(rnd, 1+rnd.Intn(60))
		b := mustPlay(t, l)
		var want [2][]api.Penalty
		for i, v := range l {
			if v.Kind != api.ClockMisconduct {
				continue
			}
			if left := 600 - played(b) + played(mustPlay(t, l[:i+1])); left > 0 {
				want[v.Team] = append(want[v.Team], misconduct(v.Player, left))
				some++
			}
		}
		if !slices.Equal(b.Misconducts[0], want[0]) || !slices.Equal(b.Misconducts[1], want[1]) {
			t.Fatalf("%v: %v, not %v", l, b.Misconducts, want)
		}
	}
	if some < 1000 {
		t.Error("too few misconducts", some)
	}
}

// P9.6: while the clock does not run nothing is served, and nothing else changes.
func TestNothingAtAStop(t *testing.T) {
	rnd := rand.New(rand.NewSource(99))
	waiting := 0
	for range 500 {
		l := anyGame(rnd, 1+rnd.Intn(60))
		for i, v := range l {
			b := mustPlay(t, l[:i+1])
			if b.Runs {
				continue
			}
			until := v.Second + rnd.Intn(5000)
			if now := mustSee(t, l[:i+1], until); !same(now, b) {
				t.Fatalf("%v: %v at %d, but %v at %d", l[:i+1], b, v.Second, now, until)
			}
			if missing(b.Penalties[0]) > 0 {
				waiting++
			}
		}
	}
	if waiting < 1000 {
		t.Error("too few penalties at stops", waiting)
	}
}

// P9.7: a goal ends one minor penalty at most, of the other team, and that only if this team is short; a board shows nothing else but the goal.
func TestWhatAGoalEnds(t *testing.T) {
	rnd := rand.New(rand.NewSource(100))
	seen := map[int]int{}
	for range 1000 {
		l := anyGame(rnd, 1+rnd.Intn(120))
		for i, v := range l {
			if v.Kind != api.ClockGoal {
				continue
			}
			want, now := mustSee(t, l[:i], v.Second), mustPlay(t, l[:i+1])
			other := 1 - v.Team
			before := want.Penalties[other]
			out := gone(t, before, now.Penalties[other])
			short := missing(before) > missing(want.Penalties[v.Team])
			if len(out) > 1 || len(out) == 1 && (!short || out[0].Kind != api.ClockMinor) {
				t.Fatalf("%v: the goal %d ends %v of %v", l, i, out, want)
			}
			if len(out) == 0 && short && before[0].Kind == api.ClockMinor {
				t.Fatalf("%v: the goal %d ends none of %v", l, i, want)
			}
			seen[len(out)]++
			want.Runs, want.Penalties[other] = false, now.Penalties[other]
			want.Goals[v.Team]++
			if !same(now, want) {
				t.Fatalf("%v: behind the goal %d there is %v, not %v", l, i, now, want)
			}
		}
	}
	if seen[0] < 1000 || seen[1] < 1000 {
		t.Error("too few goals", seen)
	}
}

// P9.8: penalties that are given at one stop can be mixed, as long as those of each team, and their misconducts, stay in order.
func TestOrderAtAStop(t *testing.T) {
	rnd := rand.New(rand.NewSource(101))
	mixed := 0
	for range 1000 {
		l := anyGame(rnd, 1+rnd.Intn(120))
		other := slices.Clone(l)
		for range 3 * len(l) {
			i := rnd.Intn(len(l))
			if i == 0 || other[i].Kind < api.ClockMinor || other[i-1].Kind < api.ClockMinor || other[i].Team == other[i-1].Team {
				continue
			}
			// Who is ahead changes, but not the seconds.
			other[i], other[i-1] = other[i-1], other[i]
			other[i].Second, other[i-1].Second = other[i-1].Second, other[i].Second
			mixed++
		}
		if b, now := mustPlay(t, l), mustPlay(t, other); !same(b, now) {
			t.Fatalf("%v: %v, but %v: %v", l, b, other, now)
		}
		if s, now := mustHave(t, l, 9000), mustHave(t, other, 9000); !slices.Equal(s, now) {
			t.Fatalf("%v: %v, but %v: %v", l, s, other, now)
		}
	}
	if mixed < 10_000 {
		t.Error("too few penalties were mixed", mixed)
	}
}

// P9.8: what is shown in a second is the same without what happens later, and with anything else that does.
func TestNothingOfLater(t *testing.T) {
	rnd := rand.New(rand.NewSource(102))
	for range 1000 {
		l := anyGame(rnd, 2+rnd.Intn(60))
		if len(l) < 2 {
			continue
		}
		n := 1 + rnd.Intn(len(l)-1)
		if l[n].Second == l[n-1].Second {
			continue
		}
		second := l[n-1].Second + rnd.Intn(l[n].Second-l[n-1].Second)
		other := append(slices.Clone(l[:n]), give(api.ClockMajor, 50_000, 0, 1), give(api.ClockMinor, 60_000, 1, 1))
		b, s := mustSee(t, l, second), mustHave(t, l, second)
		for _, later := range [][]api.ClockEvent{l[:n], other} {
			if now := mustSee(t, later, second); !same(now, b) {
				t.Fatalf("%v and %v show %v and %v at %d", l, later, b, now, second)
			}
			if now := mustHave(t, later, second); !slices.Equal(now, s) {
				t.Fatalf("%v and %v have %v and %v until %d", l, later, s, now, second)
			}
		}
		if all := mustHave(t, l, api.MaxSeconds); len(all) < len(s) || !slices.Equal(all[:len(s)], s) {
			t.Fatalf("%v: %v until %d, but %v in all", l, s, second, all)
		}
	}
}

// playOn returns events with which it is played on behind others, and the second of the day so many seconds of play later; false if the game is over earlier.
func playOn(t *testing.T, l []api.ClockEvent, n int) ([]api.ClockEvent, int, bool) {
	t.Helper()
	l = slices.Clone(l)
	second := l[len(l)-1].Second
	for {
		b := mustSee(t, l, second)
		rest := api.PeriodLength - b.Played
		if !b.Runs {
			if n > 0 && rest == 0 && b.Period == api.Periods-1 {
				return nil, 0, false
			}
			if n > 0 {
				l = append(l, start(second))
			}
			if rest == 0 {
				rest = api.PeriodLength
			}
		}
		if n <= rest {
			return l, second + n, true
		}
		second += rest
		n -= rest
	}
}

// P9.9: after so many seconds of play as Whole tells nobody of the team is missing, and one second earlier somebody is.
func TestWholeThen(t *testing.T) {
	rnd := rand.New(rand.NewSource(103))
	late, periods := 0, 0
	for range 1000 {
		l := anyGame(rnd, 1+rnd.Intn(40))
		if len(l) == 0 {
			continue
		}
		b := mustPlay(t, l)
		for team := range 2 {
			n := mustWait(t, b, team)
			more, second, ok := playOn(t, l, n)
			if !ok || len(more) > api.MaxClockEvents {
				continue
			}
			if then := mustSee(t, more, second); len(then.Penalties[team]) > 0 {
				t.Fatalf("%v: the team %d is not whole %d seconds behind %v, but has %v", l, team, n, b, then)
			}
			if n == 0 {
				continue
			}
			more, second, _ = playOn(t, l, n-1)
			then := mustSee(t, more, second)
			if missing(then.Penalties[team]) == 0 {
				t.Fatalf("%v: the team %d is whole %d seconds behind %v", l, team, n-1, b)
			}
			if then.Period > b.Period {
				periods++
			}
			late++
		}
	}
	if late < 300 || periods < 30 {
		t.Error("too few teams were not whole", late, periods)
	}
}
