package roster_test

import (
	"math"
	"math/rand"
	"slices"
	"testing"

	"icehall/api"
	"icehall/roster"
)

// odd is numbers that no range of the chapter contains, or that are at the end of one.
var odd = []int{math.MinInt, -1, 0, 1, 2, 5, 6, 7, 20, 21, api.MaxClub, api.MaxClub + 1, api.MaxPerson, api.MaxPerson + 1, api.MaxDay, api.MaxDay + 1, math.MaxInt}

// healing is the kinds of what happens on the way back, and how it begins.
var healing = []int{api.Hurt, api.Symptom, api.Pass, api.Clear}

func join(day, person, club int) api.RosterEvent {
	return api.RosterEvent{Day: day, Kind: api.Join, Person: person, N: club}
}

func suspend(day, person, games int) api.RosterEvent {
	return api.RosterEvent{Day: day, Kind: api.Suspend, Person: person, N: games}
}

func hurt(day, person int) api.RosterEvent {
	return api.RosterEvent{Day: day, Kind: api.Hurt, Person: person}
}

func symptom(day, person int) api.RosterEvent {
	return api.RosterEvent{Day: day, Kind: api.Symptom, Person: person}
}

func pass(day, person int) api.RosterEvent {
	return api.RosterEvent{Day: day, Kind: api.Pass, Person: person}
}

func clearing(day, person int) api.RosterEvent {
	return api.RosterEvent{Day: day, Kind: api.Clear, Person: person}
}

func match(day, club int, sheet ...int) api.RosterEvent {
	return api.RosterEvent{Day: day, Kind: api.Match, N: club, Sheet: sheet}
}

// example returns the events of the document's examples.
func example() []api.RosterEvent {
	return []api.RosterEvent{join(1, 7, 2), join(1, 9, 2), join(1, 5, 3), suspend(2, 7, 2), hurt(3, 9), match(4, 2), pass(5, 9)}
}

// crowd returns the events by which so many persons from first on join a club on the day 0.
func crowd(club, first, n int) []api.RosterEvent {
	var l []api.RosterEvent
	for i := range n {
		l = append(l, join(0, first+i, club))
	}
	return l
}

// numbers returns n numbers from first on.
func numbers(first, n int) []int {
	var l []int
	for i := range n {
		l = append(l, first+i)
	}
	return l
}

// passes returns n events by which a person passes a stage on a day each.
func passes(day, person, n int) []api.RosterEvent {
	var l []api.RosterEvent
	for i := range n {
		l = append(l, pass(day+i, person))
	}
	return l
}

// cloneEvents returns the same events in memory of their own.
func cloneEvents(l []api.RosterEvent) []api.RosterEvent {
	l = slices.Clone(l)
	for i := range l {
		l[i].Sheet = slices.Clone(l[i].Sheet)
	}
	return l
}

// mustPlay plays events that can be.
func mustPlay(t *testing.T, l []api.RosterEvent) []api.Member {
	t.Helper()
	m, n, e := roster.Play(l)
	if n != len(l) || e != api.OK {
		t.Fatalf("Play(%v): index %d, error %d", l, n, e)
	}
	return m
}

// mustSay returns why a member is barred on a day that can be asked for.
func mustSay(t *testing.T, l []api.RosterEvent, person, day int) []int {
	t.Helper()
	why, e := roster.Why(l, person, day)
	if e != api.OK {
		t.Fatalf("Why(%v, %d, %d): error %d", l, person, day, e)
	}
	return why
}

// mustName returns who of a club is able on a day that can be asked for.
func mustName(t *testing.T, l []api.RosterEvent, club, day int) []int {
	t.Helper()
	able, e := roster.Able(l, club, day)
	if e != api.OK {
		t.Fatalf("Able(%v, %d, %d): error %d", l, club, day, e)
	}
	return able
}

// mustWait returns the way back of a member.
func mustWait(t *testing.T, l []api.RosterEvent, person int) (games, day int) {
	t.Helper()
	games, day, e := roster.Back(l, person)
	if e != api.OK {
		t.Fatalf("Back(%v, %d): error %d", l, person, e)
	}
	return games, day
}

// history is events that happened. All that is asked of it is found by reading all of it once more, as the document words it.
type history []api.RosterEvent

// member returns what the events say of a person.
func (h history) member(person int) (m api.Member, ok bool) {
	for _, v := range h {
		switch {
		case v.Kind == api.Match:
			if ok && v.N == m.Club && m.Ban > 0 {
				m.Ban--
			}
		case v.Person != person:
		case v.Kind == api.Join:
			m, ok = api.Member{Person: person, Club: v.N}, true
		case v.Kind == api.Suspend:
			m.Ban += v.N
		case v.Kind == api.Pass:
			m.Stage, m.Since = m.Stage+1, v.Day
		case v.Kind == api.Clear:
			m.Stage, m.Since = 0, v.Day
		default:
			m.Stage, m.Since = 1, v.Day
		}
	}
	return m, ok
}

// members returns all members, by rising persons.
func (h history) members() []api.Member {
	var l []api.Member
	for _, v := range h {
		if v.Kind == api.Join {
			m, _ := h.member(v.Person)
			l = append(l, m)
		}
	}
	slices.SortFunc(l, func(a, b api.Member) int { return a.Person - b.Person })
	return l
}

// why returns why a member is barred on a day.
func (h history) why(person, day int) []int {
	var why []int
	m, _ := h.member(person)
	if m.Ban > 0 {
		why = append(why, 1)
	}
	if m.Stage > 0 {
		why = append(why, 2)
	}
	for _, v := range h {
		if v.Kind == api.Match && v.Day == day && slices.Contains(v.Sheet, person) {
			why = append(why, 3)
		}
	}
	return why
}

// able returns who of a club is not barred on a day.
func (h history) able(club, day int) []int {
	var able []int
	for _, m := range h.members() {
		if m.Club == club && len(h.why(m.Person, day)) == 0 {
			able = append(able, m.Person)
		}
	}
	return able
}

// played returns whether a club had a match on a day.
func (h history) played(club, day int) bool {
	return slices.ContainsFunc(h, func(v api.RosterEvent) bool {
		return v.Kind == api.Match && v.N == club && v.Day == day
	})
}

// full returns whether a club has as many members as it can have.
func (h history) full(club int) bool {
	n := 0
	for _, v := range h {
		if v.Kind == api.Join && v.N == club {
			n++
		}
	}
	return n >= 25
}

// wrong returns whether an event is not valid.
func wrong(v api.RosterEvent) bool {
	if v.Day < 0 || v.Day > 16384 || v.Kind < 0 || v.Kind > 6 || v.Person < 0 || v.Person > 4095 {
		return true
	}
	if (v.Kind == api.Match || v.Kind == api.Join) && (v.N < 0 || v.N > 255) {
		return true
	}
	if v.Kind == api.Match {
		rising := slices.IsSorted(v.Sheet) && len(slices.Compact(slices.Clone(v.Sheet))) == len(v.Sheet)
		beyond := slices.ContainsFunc(v.Sheet, func(n int) bool { return n < 0 || n > 4095 })
		return v.Person != 0 || !rising || beyond || len(v.Sheet) > 20
	}
	if v.Kind == api.Suspend && (v.N < 1 || v.N > 20) || v.Kind > api.Suspend && v.N != 0 {
		return true
	}
	return len(v.Sheet) > 0
}

// fault returns the error of an event behind the history.
func (h history) fault(v api.RosterEvent) api.Errno {
	if wrong(v) {
		return api.ErrArg
	}
	if len(h) > 0 && v.Day < h[len(h)-1].Day {
		return api.ErrOrder
	}
	m, ok := h.member(v.Person)
	switch {
	case v.Kind == api.Match:
		return h.sheetFault(v)
	case v.Kind == api.Join && ok:
		return api.ErrTwice
	case v.Kind == api.Join && h.full(v.N):
		return api.ErrFull
	case v.Kind == api.Join:
		return api.OK
	case !ok:
		return api.ErrNone
	case v.Kind == api.Symptom && m.Stage == 0:
		return api.ErrState
	case v.Kind == api.Pass && (m.Stage == 0 || m.Stage == 6):
		return api.ErrState
	case v.Kind == api.Clear && m.Stage != 6:
		return api.ErrState
	case (v.Kind == api.Pass || v.Kind == api.Clear) && v.Day <= m.Since:
		return api.ErrRefuse
	}
	return api.OK
}

// sheetFault returns the error of a match behind the history.
func (h history) sheetFault(v api.RosterEvent) api.Errno {
	if h.played(v.N, v.Day) {
		return api.ErrTwice
	}
	for _, person := range v.Sheet {
		if m, ok := h.member(person); !ok || m.Club != v.N {
			return api.ErrNone
		}
		if len(h.why(person, v.Day)) > 0 {
			return api.ErrRefuse
		}
	}
	return api.OK
}

// told returns the index and the error with which events end by the words of the chapter.
func told(l []api.RosterEvent) (index int, e api.Errno) {
	if len(l) > 256 {
		return 0, api.ErrLong
	}
	for i, v := range l {
		if e := history(l[:i]).fault(v); e != api.OK {
			return i, e
		}
	}
	return len(l), api.OK
}

// anyEvent returns an event of one of some persons, who are in one of some clubs, that may have an error.
func anyEvent(rnd *rand.Rand, h history, day, persons, clubs int) api.RosterEvent {
	person := rnd.Intn(persons)
	m, ok := h.member(person)
	switch {
	case rnd.Intn(6) == 0:
		club := rnd.Intn(clubs)
		sheet := slices.DeleteFunc(h.able(club, day), func(int) bool { return rnd.Intn(5) == 0 })
		if rnd.Intn(8) == 0 && !slices.Contains(sheet, person) {
			sheet = append(sheet, person)
			slices.Sort(sheet)
		}
		return match(day, club, sheet...)
	case !ok && rnd.Intn(8) > 0:
		return join(day, person, rnd.Intn(clubs))
	case m.Stage == 6 && rnd.Intn(4) > 0:
		return clearing(day, person)
	case m.Stage > 0 && rnd.Intn(8) > 0:
		return pass(day, person)
	case rnd.Intn(3) == 0:
		return suspend(day, person, 1+rnd.Intn(3))
	case rnd.Intn(12) == 0:
		return join(day, person, rnd.Intn(clubs))
	}
	return api.RosterEvent{Day: day, Kind: healing[rnd.Intn(len(healing))], Person: person}
}

// anySeason returns up to n events that can be, with a few persons.
func anySeason(rnd *rand.Rand, n int) []api.RosterEvent {
	var h history
	day, persons, clubs, pace := rnd.Intn(9), 1+rnd.Intn(12), 1+rnd.Intn(3), 2+rnd.Intn(5)
	for range 2 * n {
		if rnd.Intn(pace) == 0 {
			day += 1 + rnd.Intn(5)/4
		}
		if v := anyEvent(rnd, h, day, persons, clubs); len(h) < n && h.fault(v) == api.OK {
			h = append(h, v)
		}
	}
	return h
}

// anyEvents returns events of which one may be wrong.
func anyEvents(rnd *rand.Rand) []api.RosterEvent {
	l := anySeason(rnd, 1+rnd.Intn(40))
	day := 0
	if len(l) > 0 {
		day = l[len(l)-1].Day
	}
	for range rnd.Intn(3) {
		l = append(l, anyEvent(rnd, l, day+rnd.Intn(2), 12, 3))
	}
	if len(l) == 0 {
		return l
	}
	number := odd[rnd.Intn(len(odd))]
	v := &l[rnd.Intn(len(l))]
	switch rnd.Intn(20) {
	case 0:
		v.Kind = rnd.Intn(9) - 1
	case 1:
		v.Day = number
	case 2:
		v.Day = max(0, v.Day+rnd.Intn(5)-2)
	case 3:
		v.Person = number
	case 4:
		v.N = number
	case 5:
		v.Sheet = append(slices.Clone(v.Sheet), number)
	case 6:
		l = append(l, *v)
	case 7:
		*v = l[0]
	}
	return l
}
