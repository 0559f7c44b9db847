package roster

import "icehall/api"

// stage is how far somebody is who may have a concussion.
type stage int

// The stages that are not like all others.
const (
	well  stage = iota // not hurt
	first              // here the way back begins, again with each symptom
	last  stage = api.LastStage
)

// player is a member as of the events so far.
type player struct {
	person, club, ban, since int
	stage                    stage
}

// member returns what is told of the player.
func (p *player) member() api.Member {
	return api.Member{Person: p.person, Club: p.club, Ban: p.ban, Stage: int(p.stage), Since: p.since}
}

// wayBack returns the first day on which the player can be cleared: the stages that are left take a day each, and so does the last one. It is 0 if the player is well.
func (p *player) wayBack() int {
	if p.stage == well {
		return 0
	}
	return p.since + int(last-p.stage) + 1
}

// suspend suspends the player for some games more.
func (p *player) suspend(v api.RosterEvent) { p.ban += v.N }

// hurt lets the player begin the way back, wherever on it the player is.
func (p *player) hurt(v api.RosterEvent) { p.reach(first, v.Day) }

// symptom lets a player who is on the way back begin it again.
func (p *player) symptom(v api.RosterEvent) {
	needs(p.stage != well, api.ErrState)
	p.reach(first, v.Day)
}

// pass lets the player pass a stage that is not the last one.
func (p *player) pass(v api.RosterEvent) {
	needs(p.stage != well && p.stage != last, api.ErrState)
	needs(v.Day > p.since, api.ErrRefuse)
	p.reach(p.stage+1, v.Day)
}

// clear lets the player play again, behind the last stage.
func (p *player) clear(v api.RosterEvent) {
	needs(p.stage == last, api.ErrState)
	needs(v.Day > p.since, api.ErrRefuse)
	p.reach(well, v.Day)
}

// reach puts the player on a stage.
func (p *player) reach(to stage, day int) { p.stage, p.since = to, day }
