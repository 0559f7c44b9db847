package panel

import (
	"iter"
	"slices"

	"icehall/api"
)

// fits returns whether a seating has a list for each contest, with nothing but judges in it.
func fits(x api.Meeting, seating [][]int) bool {
	if len(seating) != len(x.Contests) {
		return false
	}
	for _, list := range seating {
		if !allWithin(list, 0, len(x.Judges)-1) {
			return false
		}
	}
	return true
}

// fault returns what is wrong with the list of a contest, with which each judge judges so often.
func fault(judges []api.Judge, c api.Contest, list []int, often [api.MaxJudges]int) api.Errno {
	if !rises(list) {
		return api.ErrOrder
	}
	if len(list) != c.Seats {
		return api.ErrShort
	}
	for _, i := range list {
		if !mayJudge(judges[i], c) {
			return api.ErrRefuse
		}
	}
	for k, i := range list {
		if hasClub(judges, list[:k], judges[i].Club) {
			return api.ErrTwice
		}
	}
	for _, i := range list {
		if often[i] > judges[i].Most {
			return api.ErrLimit
		}
	}
	return api.OK
}

// rises returns whether a list is strictly rising.
func rises(list []int) bool {
	for k := 1; k < len(list); k++ {
		if list[k-1] >= list[k] {
			return false
		}
	}
	return true
}

// mayJudge returns whether a judge may judge a contest.
func mayJudge(j api.Judge, c api.Contest) bool {
	return j.Level >= c.Level && !slices.Contains(c.Clubs, j.Club)
}

// hasClub returns whether a list has a judge of a club.
func hasClub(judges []api.Judge, list []int, club int) bool {
	return slices.ContainsFunc(list, func(i int) bool { return judges[i].Club == club })
}

// firstSeating returns the first good seating, and whether there is one.
func firstSeating(x api.Meeting) ([][]int, bool) {
	seating := make([][]int, len(x.Contests))
	var seat func(contest int, before [api.MaxJudges]int) bool
	seat = func(contest int, before [api.MaxJudges]int) bool {
		if contest == len(x.Contests) {
			return true
		}
	next:
		for list := range lists(x.Judges, x.Contests[contest], nil) {
			often := before
			for _, i := range list {
				if often[i]++; often[i] > x.Judges[i].Most {
					continue next
				}
			}
			if seat(contest+1, often) {
				seating[contest] = list
				return true
			}
		}
		return false
	}
	return seating, seat(0, [api.MaxJudges]int{})
}

// lists yields, in their order, the lists for a contest that begin with some judges, each in memory of its own; how often they judge is left to the search, which knows the other contests.
func lists(judges []api.Judge, c api.Contest, begin []int) iter.Seq[[]int] {
	return func(yield func([]int) bool) {
		if len(begin) == c.Seats {
			yield(begin)
			return
		}
		next := 0
		if len(begin) > 0 {
			next = begin[len(begin)-1] + 1
		}
		for i := next; i < len(judges); i++ {
			if !mayJudge(judges[i], c) || hasClub(judges, begin, judges[i].Club) {
				continue
			}
			for list := range lists(judges, c, append(slices.Clone(begin), i)) {
				if !yield(list) {
					return
				}
			}
		}
	}
}
