package roster

import (
	"iter"
	"maps"
	"slices"

	"icehall/api"
)

// kinds is how many kinds of events there are.
const kinds = api.Match + 1

// turn is a day on which somebody, a person or a club, plays.
type turn struct{ day, who int }

// season is the members of all clubs behind events, by their persons; the day of the last event; who was on a sheet, and which clubs had a match.
type season struct {
	day             int
	players         map[int]*player
	sheets, matches set[turn]
}

// follow returns the season behind all events and their number, or the first one with an error.
func follow(l []api.RosterEvent) (s *season, index int, e api.Errno) {
	if len(l) > api.MaxRosterEvents {
		return nil, 0, api.ErrLong
	}
	s = &season{players: map[int]*player{}, sheets: set[turn]{}, matches: set[turn]{}}
	for i, v := range l {
		if e := s.happen(v); e != api.OK {
			return nil, i, e
		}
	}
	return s, len(l), api.OK
}

// rising goes through the members by rising persons.
func (s *season) rising() iter.Seq[*player] {
	return func(yield func(*player) bool) {
		for _, person := range slices.Sorted(maps.Keys(s.players)) {
			if !yield(s.players[person]) {
				return
			}
		}
	}
}

// ofClub goes through the members of a club by rising persons.
func (s *season) ofClub(club int) iter.Seq[*player] {
	return func(yield func(*player) bool) {
		for p := range s.rising() {
			if p.club == club && !yield(p) {
				return
			}
		}
	}
}

// canAsk returns whether a day can be asked for: what was ahead of the last event is not known any more.
func (s *season) canAsk(day int) bool { return within(day, s.day, api.MaxDay) }

// bars returns, rising, why a member is barred on a day.
func (s *season) bars(p *player, day int) []int {
	var why []int
	if p.ban > 0 {
		why = append(why, api.Banned)
	}
	if p.stage != well {
		why = append(why, api.Unwell)
	}
	if s.sheets.has(turn{day, p.person}) {
		why = append(why, api.Played)
	}
	return why
}

// barred returns whether a member is barred on a day.
func (s *season) barred(p *player, day int) bool { return len(s.bars(p, day)) > 0 }

// happen lets an event happen. The season is of no use any more if it returns an error.
func (s *season) happen(v api.RosterEvent) (e api.Errno) {
	if !validEvent(v) {
		return api.ErrArg
	}
	if v.Day < s.day {
		return api.ErrOrder
	}
	defer func() {
		if why := recover(); why != nil {
			e = cause(why)
		}
	}()
	s.day = v.Day
	s.deeds()[v.Kind](v)
	return api.OK
}

// deeds returns what does the events of each kind.
func (s *season) deeds() [kinds]func(api.RosterEvent) {
	return [kinds]func(api.RosterEvent){
		api.Join:    s.join,
		api.Suspend: s.toMember((*player).suspend),
		api.Hurt:    s.toMember((*player).hurt),
		api.Symptom: s.toMember((*player).symptom),
		api.Pass:    s.toMember((*player).pass),
		api.Clear:   s.toMember((*player).clear),
		api.Match:   s.match,
	}
}

// toMember returns what does a deed to the person of an event, who has to be a member.
func (s *season) toMember(deed func(*player, api.RosterEvent)) func(api.RosterEvent) {
	return func(v api.RosterEvent) {
		p, ok := s.players[v.Person]
		needs(ok, api.ErrNone)
		deed(p, v)
	}
}

// needs ends an event that cannot be with an error, unless it can.
func needs(can bool, e api.Errno) {
	if !can {
		panic(e)
	}
}

// cause returns the error with which an event ended. A panic without one is never taken for success.
func cause(why any) api.Errno {
	if e, ok := why.(api.Errno); ok {
		return e
	}
	return api.ErrState
}

// join makes a person a member of a club that has room.
func (s *season) join(v api.RosterEvent) {
	needs(s.players[v.Person] == nil, api.ErrTwice)
	members := 0
	for range s.ofClub(v.N) {
		members++
	}
	needs(members < api.MaxRoster, api.ErrFull)
	s.players[v.Person] = &player{person: v.Person, club: v.N}
}

// match lets a club play with those of the sheet; it is a game that all its suspended members serve.
func (s *season) match(v api.RosterEvent) {
	needs(!s.matches.has(turn{v.Day, v.N}), api.ErrTwice)
	for _, person := range v.Sheet {
		p, ok := s.players[person]
		needs(ok && p.club == v.N, api.ErrNone)
		needs(!s.barred(p, v.Day), api.ErrRefuse)
	}
	s.matches.add(turn{v.Day, v.N})
	for _, person := range v.Sheet {
		s.sheets.add(turn{v.Day, person})
	}
	for p := range s.ofClub(v.N) {
		p.ban = max(0, p.ban-1)
	}
}
