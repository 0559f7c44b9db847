package panel_test

import (
	"math"
	"math/rand"
	"slices"
	"testing"

	"icehall/api"
	"icehall/panel"
)

// P8.6: the example of the document, and other appeals.
func TestAppeals(t *testing.T) {
	all := make([]api.Appeal, api.MaxCalls)
	for i := range all {
		all[i] = api.Appeal{Element: i, Votes: []int{0, 1}}
	}
	for name, c := range map[string]struct {
		calls []int
		l     []api.Appeal
		fee   int
		now   []int
		kept  int
	}{
		"the example":         {[]int{3, 3}, []api.Appeal{{Element: 1, Votes: []int{4, 4, 4}}, {Votes: []int{1, 2, 3}}}, 50, []int{3, 4}, 50},
		"no appeals":          {[]int{3}, nil, 50, []int{3}, 0},
		"no calls":            {nil, nil, 0, nil, 0},
		"one that is lost":    {[]int{3}, []api.Appeal{{Votes: []int{3, 3}}}, 7, []int{3}, 7},
		"one that is won":     {[]int{3}, []api.Appeal{{Votes: []int{2}}}, 7, []int{2}, 0},
		"two that are lost":   {[]int{3, 1, 2}, []api.Appeal{{Element: 2, Votes: []int{1, 2}}, {Element: 1, Votes: []int{1}}}, 7, []int{3, 1, 2}, 14},
		"no fee":              {[]int{3}, []api.Appeal{{Votes: []int{3, 3}}}, 0, []int{3}, 0},
		"each lost, MaxFee":   {make([]int, api.MaxCalls), all, api.MaxFee, make([]int, api.MaxCalls), api.MaxCalls * api.MaxFee},
		"the last call of 64": {append(make([]int, api.MaxCalls-1), 9), []api.Appeal{{Element: 63, Votes: []int{8}}}, 1, append(make([]int, api.MaxCalls-1), 8), 0},
	} {
		if now, kept, n, e := panel.Appeals(c.calls, c.l, c.fee); !slices.Equal(now, c.now) || kept != c.kept || n != len(c.l) || e != api.OK {
			t.Errorf("%s: %v, %d, %d, error %d", name, now, kept, n, e)
		}
	}
}

// P8.6: each error, and of several ones the first.
func TestAppealErrors(t *testing.T) {
	won, lost := api.Appeal{Votes: []int{2}}, api.Appeal{Element: 1, Votes: []int{3}}
	bad, many := api.Appeal{Element: 2, Votes: []int{1}}, make([]api.Appeal, api.MaxCalls+1)
	tooMany := make([]int, api.MaxCalls+1)
	for name, c := range map[string]struct {
		calls []int
		l     []api.Appeal
		fee   int
		index int
		e     api.Errno
	}{
		"65 appeals":                        {[]int{3, 3}, many, 5, 0, api.ErrLong},
		"65 appeals ahead of calls and fee": {[]int{101}, many, -1, 0, api.ErrLong},
		"a call above MaxCall":              {[]int{3, 101}, nil, 5, 0, api.ErrArg},
		"a call below 0, ahead of the fee":  {[]int{-1, 3}, nil, -1, 0, api.ErrArg},
		"65 calls":                          {tooMany, nil, 5, 0, api.ErrArg},
		"a call, ahead of all appeals":      {[]int{3, 3, 101}, []api.Appeal{won, lost, lost}, 5, 0, api.ErrArg},
		"fee below 0":                       {[]int{3, 3}, nil, -1, 0, api.ErrRange},
		"fee above MaxFee":                  {nil, nil, api.MaxFee + 1, 0, api.ErrRange},
		"the least fee, and no such call":   {[]int{3, 3}, []api.Appeal{won, bad}, math.MinInt, 0, api.ErrRange},
		"the greatest fee":                  {[]int{3, 3}, []api.Appeal{won}, math.MaxInt, 0, api.ErrRange},
		"no such call":                      {[]int{3, 3}, []api.Appeal{won, bad}, 5, 1, api.ErrArg},
		"no such call, first":               {[]int{3, 3}, []api.Appeal{bad, won, won}, 5, 0, api.ErrArg},
		"an element below 0":                {[]int{3, 3}, []api.Appeal{{Element: -1, Votes: []int{1}}}, 5, 0, api.ErrArg},
		"an element, but no calls":          {nil, []api.Appeal{won}, 5, 0, api.ErrArg},
		"won, and again":                    {[]int{3, 3}, []api.Appeal{won, lost, won}, 5, 2, api.ErrTwice},
		"lost, and again":                   {[]int{3, 3}, []api.Appeal{lost, lost, bad}, 5, 1, api.ErrTwice},
		"again, but without votes":          {[]int{3, 3}, []api.Appeal{won, lost, {}}, 5, 2, api.ErrArg},
	} {
		if now, kept, index, e := panel.Appeals(c.calls, c.l, c.fee); len(now) > 0 || kept != 0 || index != c.index || e != c.e {
			t.Errorf("%s: %v, %d, %d, error %d", name, now, kept, index, e)
		}
	}
	for name, votes := range badVotes() {
		l := []api.Appeal{lost, {Votes: votes}}
		if now, kept, index, e := panel.Appeals([]int{3, 3}, l, 5); len(now) > 0 || kept != 0 || index != 1 || e != api.ErrArg {
			t.Errorf("votes %s: %v, %d, %d, error %d", name, now, kept, index, e)
		}
	}
}

// P8.6: random appeals leave the calls and keep the fees that the words of the chapter say.
func TestAppealsByWords(t *testing.T) {
	rnd := rand.New(rand.NewSource(6))
	wins, losses := 0, 0
	for range 3000 {
		calls, l := anyAppeals(rnd)
		fee := rnd.Intn(api.MaxFee + 1)
		want, left := slices.Clone(calls), 0
		for _, a := range l {
			now, upheld := reviewBy(want[a.Element], a.Votes)
			want[a.Element] = now
			if upheld {
				wins++
			} else {
				left += fee
				losses++
			}
		}
		if now, kept := mustAppeal(t, calls, l, fee); !slices.Equal(now, want) || kept != left {
			t.Fatalf("%v, %v, %d: %v, %d, not %v, %d", calls, l, fee, now, kept, want, left)
		}
	}
	if wins < 3000 || losses < 3000 {
		t.Error("too few appeals that are won or lost", wins, losses)
	}
}
