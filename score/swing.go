package score

import (
	"slices"

	"icehall/api"
)

// standing is all of a score that counts when skaters are ranked.
type standing struct{ total, elements int }

// standingOf returns the standing of a score.
func standingOf(s api.Score) standing { return standing{s.Total, s.Elements} }

// better returns whether a standing is better than another one.
func (s standing) better(than standing) bool {
	return s.total > than.total || s.total == than.total && s.elements > than.elements
}

// place returns the place of a standing among all of them.
func place(s standing, all []standing) int {
	return 1 + count(all, func(other standing) bool { return other.better(s) })
}

// swing returns from which place to which one a judge of a valid contest could have moved each skater.
func swing(r api.Rules, l []api.Skating, judge int) []api.Span {
	// With a higher mark no score is worse, so the lowest marks give the worst one and the highest marks the best one; and the marks of one skater move no other's score, so each one's best can come with the worst of all others.
	worst, best := make([]standing, len(l)), make([]standing, len(l))
	for i, s := range l {
		worst[i] = standingOf(program(r, marked(s, judge, -api.MaxGrade, 0)))
		best[i] = standingOf(program(r, marked(s, judge, api.MaxGrade, api.MaxQuarters)))
	}
	spans := make([]api.Span, len(l))
	for i := range l {
		spans[i] = api.Span{Lo: place(best[i], worst), Hi: place(worst[i], best)}
		if best[i] != worst[i] {
			// Among those ahead of the skater's worst is the skater's own best, and nobody is behind oneself.
			spans[i].Hi--
		}
	}
	return spans
}

// marked returns a skating as it were if a judge had given the same grade to all calls, and the same mark to all parts.
func marked(s api.Skating, judge, grade, quarters int) api.Skating {
	s.Calls, s.Parts = slices.Clone(s.Calls), slices.Clone(s.Parts)
	for i, c := range s.Calls {
		s.Calls[i].Marks = replaced(c.Marks, judge, grade)
	}
	for i, marks := range s.Parts {
		s.Parts[i] = replaced(marks, judge, quarters)
	}
	return s
}

// replaced returns marks with another one of a judge.
func replaced(marks []int, judge, mark int) []int {
	l := slices.Clone(marks)
	l[judge] = mark
	return l
}
