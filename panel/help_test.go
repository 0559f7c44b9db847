package panel_test

import (
	"math"
	"math/big"
	"math/rand"
	"slices"
	"testing"

	"icehall/api"
	"icehall/panel"
)

// odd is numbers that no range of the chapter contains, or that are at the end of one.
var odd = []int{math.MinInt, -10_001, -1, 0, 1, 2, 3, 4, 5, 7, 8, 9, 10, 63, 64, 100, 101, 255, 256, 10_000, 10_001, 1 << 20, 1<<20 + 1, math.MaxInt}

// meeting returns the judges and contests of the document's examples.
func meeting() api.Meeting {
	return api.Meeting{
		Judges:   []api.Judge{{Club: 1, Level: 5, Most: 2}, {Club: 1, Level: 7, Most: 1}, {Club: 2, Level: 6, Most: 2}, {Club: 3, Level: 4, Most: 2}},
		Contests: []api.Contest{{Clubs: []int{4, 5}, Level: 4, Seats: 2}, {Clubs: []int{1}, Level: 4, Seats: 2}},
	}
}

// marks returns the marks of the document's examples.
func marks() api.Marks {
	return api.Marks{Skaters: []int{1, 2, 2}, Judges: []int{1, 2, 3}, Marks: [][]int{{600, 500, 520}, {400, 450, 470}, {300, 300, 300}}}
}

// badMeetings returns meetings that are not valid, by what is wrong with them.
func badMeetings() map[string]api.Meeting {
	bad := map[string]api.Meeting{
		"nothing but a judge of no club":    {Judges: []api.Judge{{Club: -1}}},
		"nothing but a contest of no level": {Contests: []api.Contest{{Level: -1}}},
	}
	for name, change := range map[string]func(x *api.Meeting){
		"club below 0":            func(x *api.Meeting) { x.Judges[0].Club = -1 },
		"club above MaxClub":      func(x *api.Meeting) { x.Judges[3].Club = api.MaxClub + 1 },
		"level below 0":           func(x *api.Meeting) { x.Judges[1].Level = -1 },
		"level above MaxLevel":    func(x *api.Meeting) { x.Judges[2].Level = api.MaxLevel + 1 },
		"most below 0":            func(x *api.Meeting) { x.Judges[3].Most = -1 },
		"most above MaxContests":  func(x *api.Meeting) { x.Judges[0].Most = api.MaxContests + 1 },
		"nine judges":             func(x *api.Meeting) { x.Judges = make([]api.Judge, api.MaxJudges+1) },
		"five contests":           func(x *api.Meeting) { x.Contests = make([]api.Contest, api.MaxContests+1) },
		"17 clubs":                func(x *api.Meeting) { x.Contests[0].Clubs = make([]int, api.MaxTaking+1) },
		"a taking club below 0":   func(x *api.Meeting) { x.Contests[1].Clubs[0] = -1 },
		"a taking club above 255": func(x *api.Meeting) { x.Contests[0].Clubs[1] = api.MaxClub + 1 },
		"contest level below 0":   func(x *api.Meeting) { x.Contests[0].Level = -1 },
		"contest level above 9":   func(x *api.Meeting) { x.Contests[1].Level = api.MaxLevel + 1 },
		"seats below 0":           func(x *api.Meeting) { x.Contests[1].Seats = -1 },
		"seats above MaxSeats":    func(x *api.Meeting) { x.Contests[0].Seats = api.MaxSeats + 1 },
		"the least of all numbers": func(x *api.Meeting) {
			x.Judges[0] = api.Judge{Club: math.MinInt, Level: math.MinInt, Most: math.MinInt}
		},
	} {
		x := meeting()
		change(&x)
		bad[name] = x
	}
	return bad
}

// badMarks returns marks that are not valid, by what is wrong with them.
func badMarks() map[string]api.Marks {
	bad := map[string]api.Marks{
		"41 skaters":          {Skaters: make([]int, api.MaxSkaters+1), Marks: make([][]int, api.MaxSkaters+1)},
		"nine judges":         {Judges: make([]int, api.MaxJudges+1)},
		"a row, no skaters":   {Judges: []int{1}, Marks: [][]int{{1}}},
		"a mark, no judges":   {Skaters: []int{1}, Marks: [][]int{{1}}},
		"a skater, no row":    {Skaters: []int{1}},
		"a judge of no club":  {Judges: []int{-1}},
		"a skater of no club": {Skaters: []int{256}, Marks: [][]int{{}}},
	}
	for name, change := range map[string]func(m *api.Marks){
		"a skater's club below 0":   func(m *api.Marks) { m.Skaters[2] = -1 },
		"a skater's club above 255": func(m *api.Marks) { m.Skaters[0] = api.MaxClub + 1 },
		"a judge's club below 0":    func(m *api.Marks) { m.Judges[0] = -1 },
		"a judge's club above 255":  func(m *api.Marks) { m.Judges[2] = api.MaxClub + 1 },
		"a row missing":             func(m *api.Marks) { m.Marks = m.Marks[:2] },
		"a row more":                func(m *api.Marks) { m.Marks = append(m.Marks, []int{1, 2, 3}) },
		"no rows":                   func(m *api.Marks) { m.Marks = nil },
		"a mark missing":            func(m *api.Marks) { m.Marks[1] = m.Marks[1][:2] },
		"a mark more":               func(m *api.Marks) { m.Marks[0] = append(m.Marks[0], 1) },
		"a row without marks":       func(m *api.Marks) { m.Marks[2] = nil },
		"a mark below 0":            func(m *api.Marks) { m.Marks[2][0] = -1 },
		"a mark above MaxMark":      func(m *api.Marks) { m.Marks[0][2] = api.MaxMark + 1 },
		"nine judges with marks": func(m *api.Marks) {
			m.Judges = make([]int, api.MaxJudges+1)
			m.Marks = slices.Repeat([][]int{m.Judges}, 3)
		},
	} {
		m := marks()
		change(&m)
		bad[name] = m
	}
	return bad
}

// badVotes returns votes that are not valid, by what is wrong with them.
func badVotes() map[string][]int {
	return map[string][]int{
		"nil": nil, "none": {}, "ten": make([]int, api.MaxVotes+1), "below 0": {3, -1}, "above MaxCall": {api.MaxCall + 1, 3, 3}, "the least number": {math.MinInt},
	}
}

// anyMeeting returns a valid meeting of so many judges and contests at most, of few clubs and levels.
func anyMeeting(rnd *rand.Rand, judges, contests int) api.Meeting {
	var x api.Meeting
	clubs := 2 + rnd.Intn(9)
	for range max(rnd.Intn(judges+1), rnd.Intn(judges+1)) {
		x.Judges = append(x.Judges, anyJudge(rnd, clubs))
	}
	for range max(rnd.Intn(contests+1), rnd.Intn(contests+1)) {
		c := api.Contest{Level: rnd.Intn(3), Seats: rnd.Intn(api.MaxSeats + 1)}
		for range rnd.Intn(3) {
			c.Clubs = append(c.Clubs, rnd.Intn(clubs))
		}
		x.Contests = append(x.Contests, c)
	}
	return x
}

// anyJudge returns a valid judge of one of some clubs.
func anyJudge(rnd *rand.Rand, clubs int) api.Judge {
	return api.Judge{Club: rnd.Intn(clubs), Level: rnd.Intn(4), Most: rnd.Intn(api.MaxContests + 1)}
}

// anySeating returns a list of judges for each contest, mostly a rising one with as many judges as there are seats.
func anySeating(rnd *rand.Rand, x api.Meeting) [][]int {
	var seating [][]int
	for _, c := range x.Contests {
		list := rnd.Perm(len(x.Judges))[:min(c.Seats, len(x.Judges))]
		if rnd.Intn(12) > 0 {
			slices.Sort(list)
		}
		if len(list) > 0 && rnd.Intn(20) == 0 {
			list = list[1:]
		}
		if len(list) > 0 && rnd.Intn(20) == 0 {
			list = append(list, list[rnd.Intn(len(list))])
		}
		seating = append(seating, list)
	}
	return seating
}

// anyMarks returns valid marks of so many skaters and judges, often of the same clubs.
func anyMarks(rnd *rand.Rand, skaters, judges int) api.Marks {
	clubs, most := 1+rnd.Intn(5), 1+rnd.Intn(api.MaxMark)
	if rnd.Intn(2) == 0 {
		most = 1 + rnd.Intn(8)
	}
	var m api.Marks
	for range judges {
		m.Judges = append(m.Judges, rnd.Intn(clubs))
	}
	for range skaters {
		m.Skaters = append(m.Skaters, rnd.Intn(clubs))
		var row []int
		for range judges {
			row = append(row, rnd.Intn(most+1))
		}
		m.Marks = append(m.Marks, row)
	}
	return m
}

// anyVotes returns valid votes, often for the same numbers.
func anyVotes(rnd *rand.Rand) []int {
	votes, kinds := make([]int, 1+rnd.Intn(api.MaxVotes)), 1+rnd.Intn(4)
	from := rnd.Intn(api.MaxCall + 2 - kinds)
	for i := range votes {
		votes[i] = from + rnd.Intn(kinds)
	}
	return votes
}

// anyAppeals returns calls, and valid appeals of some of them.
func anyAppeals(rnd *rand.Rand) (calls []int, l []api.Appeal) {
	for range rnd.Intn(api.MaxCalls + 1) {
		calls = append(calls, rnd.Intn(4))
	}
	for _, element := range rnd.Perm(len(calls))[:rnd.Intn(len(calls)+1)] {
		votes := anyVotes(rnd)
		if rnd.Intn(2) == 0 {
			for i := range votes {
				votes[i] %= 3
			}
		}
		l = append(l, api.Appeal{Element: element, Votes: votes})
	}
	return calls, l
}

// checkBy returns what Check returns for a valid meeting, by the words of the chapter.
func checkBy(x api.Meeting, seating [][]int) (int, api.Errno) {
	if len(seating) != len(x.Contests) {
		return 0, api.ErrRange
	}
	for _, i := range slices.Concat(seating...) {
		if i < 0 || i >= len(x.Judges) {
			return 0, api.ErrRange
		}
	}
	for i, c := range x.Contests {
		list := seating[i]
		strict := slices.Clone(list)
		slices.Sort(strict)
		if !slices.Equal(slices.Compact(strict), list) {
			return i, api.ErrOrder
		}
		if len(list) != c.Seats {
			return i, api.ErrShort
		}
		for _, j := range list {
			if x.Judges[j].Level < c.Level || slices.Contains(c.Clubs, x.Judges[j].Club) {
				return i, api.ErrRefuse
			}
		}
		for _, j := range list {
			for _, k := range list {
				if j != k && x.Judges[j].Club == x.Judges[k].Club {
					return i, api.ErrTwice
				}
			}
		}
		for _, j := range list {
			n := 0
			for _, other := range seating[:i+1] {
				if slices.Contains(other, j) {
					n++
				}
			}
			if n > x.Judges[j].Most {
				return i, api.ErrLimit
			}
		}
	}
	return len(x.Contests), api.OK
}

// compare compares two seatings, as the chapter orders them.
func compare(a, b [][]int) int { return slices.CompareFunc(a, b, slices.Compare[[]int]) }

// seatBy returns the first good seating of a valid meeting, and whether there is one: it tries all sets of judges for all contests.
func seatBy(x api.Meeting) (first [][]int, found bool) {
	all := [][][]int{{}}
	for _, c := range x.Contests {
		var longer [][][]int
		for _, seating := range all {
			for set := range 1 << len(x.Judges) {
				var list []int
				for j := range x.Judges {
					if set>>j&1 == 1 {
						list = append(list, j)
					}
				}
				if len(list) == c.Seats {
					longer = append(longer, append(slices.Clone(seating), list))
				}
			}
		}
		all = longer
	}
	for _, seating := range all {
		if _, e := checkBy(x, seating); e == api.OK && (!found || compare(seating, first) < 0) {
			first, found = seating, true
		}
	}
	return first, found
}

// biasBy returns the bias of a judge by valid marks, and whether there is one, by the words of the chapter.
func biasBy(m api.Marks, judge int) (*big.Rat, bool) {
	sums, counts := [2]*big.Rat{new(big.Rat), new(big.Rat)}, [2]int64{}
	for i, row := range m.Marks {
		n, kind := int64(len(row)), 0
		if n == 1 {
			return nil, false
		}
		if m.Skaters[i] == m.Judges[judge] {
			kind = 1
		}
		rest := new(big.Rat)
		for k, mark := range row {
			if k != judge {
				rest.Add(rest, big.NewRat(int64(mark), n-1))
			}
		}
		more := new(big.Rat).Sub(big.NewRat(int64(row[judge]), 1), rest)
		sums[kind].Add(sums[kind], more)
		counts[kind]++
	}
	if counts[0] == 0 || counts[1] == 0 {
		return nil, false
	}
	own := new(big.Rat).Quo(sums[1], big.NewRat(counts[1], 1))
	return own.Sub(own, new(big.Rat).Quo(sums[0], big.NewRat(counts[0], 1))), true
}

// reviewBy returns what a call is behind votes, and whether it was changed, by the words of the chapter.
func reviewBy(call int, votes []int) (int, bool) {
	for n := range api.MaxCall + 1 {
		same := 0
		for _, v := range votes {
			if v == n {
				same++
			}
		}
		if same > len(votes)-same && n != call {
			return n, true
		}
	}
	return call, false
}

// rat returns a ratio of the program as a fraction.
func rat(r api.Ratio) *big.Rat { return big.NewRat(int64(r.Num), int64(r.Den)) }

// isBias returns whether a ratio is a fraction, in lowest terms and with a Den above 0.
func isBias(r api.Ratio, want *big.Rat) bool {
	return big.NewInt(int64(r.Num)).Cmp(want.Num()) == 0 && big.NewInt(int64(r.Den)).Cmp(want.Denom()) == 0
}

// cloneMeeting returns the same meeting in memory of its own.
func cloneMeeting(x api.Meeting) api.Meeting {
	x.Judges, x.Contests = slices.Clone(x.Judges), slices.Clone(x.Contests)
	for i, c := range x.Contests {
		x.Contests[i].Clubs = slices.Clone(c.Clubs)
	}
	return x
}

// cloneRows returns the same lists in memory of their own.
func cloneRows(l [][]int) [][]int {
	l = slices.Clone(l)
	for i, row := range l {
		l[i] = slices.Clone(row)
	}
	return l
}

// cloneMarks returns the same marks in memory of their own.
func cloneMarks(m api.Marks) api.Marks {
	return api.Marks{Skaters: slices.Clone(m.Skaters), Judges: slices.Clone(m.Judges), Marks: cloneRows(m.Marks)}
}

// cloneAppeals returns the same appeals in memory of their own.
func cloneAppeals(l []api.Appeal) []api.Appeal {
	l = slices.Clone(l)
	for i, a := range l {
		l[i].Votes = slices.Clone(a.Votes)
	}
	return l
}

// mustBias returns the bias of a judge who has one.
func mustBias(t *testing.T, m api.Marks, judge int) api.Ratio {
	t.Helper()
	b, e := panel.Bias(m, judge)
	if e != api.OK {
		t.Fatalf("Bias(%v, %d): error %d", m, judge, e)
	}
	return b
}

// mustReview returns what a call is behind votes, and whether it was changed.
func mustReview(t *testing.T, call int, votes []int) (int, bool) {
	t.Helper()
	now, upheld, e := panel.Review(call, votes)
	if e != api.OK {
		t.Fatalf("Review(%d, %v): error %d", call, votes, e)
	}
	return now, upheld
}

// mustAppeal returns what calls are behind appeals, and how much of the fees is kept.
func mustAppeal(t *testing.T, calls []int, l []api.Appeal, fee int) ([]int, int) {
	t.Helper()
	now, kept, n, e := panel.Appeals(calls, l, fee)
	if e != api.OK || n != len(l) || len(now) != len(calls) {
		t.Fatalf("Appeals(%v, %v, %d): %v, %d, %d, error %d", calls, l, fee, now, kept, n, e)
	}
	return now, kept
}
