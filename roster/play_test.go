package roster_test

import (
	"math"
	"math/rand"
	"slices"
	"testing"

	"icehall/api"
	"icehall/roster"
)

// P11.1: the document's examples.
func TestPlayExamples(t *testing.T) {
	want := []api.Member{{Person: 5, Club: 3}, {Person: 7, Club: 2, Ban: 1}, {Person: 9, Club: 2, Stage: 2, Since: 5}}
	if m := mustPlay(t, example()); !slices.Equal(m, want) {
		t.Error(m)
	}
	for _, v := range []api.RosterEvent{pass(5, 9), match(6, 2, 7)} {
		if m, n, e := roster.Play(append(example(), v)); len(m) > 0 || n != 7 || e != api.ErrRefuse {
			t.Errorf("and %v: %v, %d, error %d", v, m, n, e)
		}
	}
}

// P11.1: what the events of each kind do.
func TestPlayKinds(t *testing.T) {
	two := []api.RosterEvent{join(3, 8, 1), join(3, 4, 1)}
	alone := api.Member{Person: 4, Club: 1}
	with := func(ban, stage, since int) api.Member {
		return api.Member{Person: 8, Club: 1, Ban: ban, Stage: stage, Since: since}
	}
	way := append([]api.RosterEvent{hurt(4, 8)}, passes(5, 8, 5)...)
	for name, c := range map[string]struct {
		more []api.RosterEvent
		want api.Member
	}{
		"a join":                         {nil, with(0, 0, 0)},
		"a suspension":                   {[]api.RosterEvent{suspend(4, 8, 3)}, with(3, 0, 0)},
		"two of them":                    {[]api.RosterEvent{suspend(4, 8, 3), suspend(4, 8, 20)}, with(23, 0, 0)},
		"a match":                        {[]api.RosterEvent{suspend(4, 8, 3), match(4, 1)}, with(2, 0, 0)},
		"a match of another club":        {[]api.RosterEvent{suspend(4, 8, 3), match(4, 2)}, with(3, 0, 0)},
		"a match ahead":                  {[]api.RosterEvent{match(4, 1), suspend(4, 8, 3)}, with(3, 0, 0)},
		"as many matches as games":       {[]api.RosterEvent{suspend(4, 8, 2), match(4, 1, 4), match(5, 1, 4)}, with(0, 0, 0)},
		"more matches than games":        {[]api.RosterEvent{suspend(4, 8, 1), match(4, 1), match(5, 1), match(6, 1)}, with(0, 0, 0)},
		"a suspension behind the end":    {[]api.RosterEvent{suspend(4, 8, 1), match(4, 1), match(5, 1), suspend(5, 8, 2)}, with(2, 0, 0)},
		"hurt":                           {[]api.RosterEvent{hurt(4, 8)}, with(0, 1, 4)},
		"hurt when suspended":            {[]api.RosterEvent{suspend(4, 8, 2), hurt(4, 8), match(5, 1)}, with(1, 1, 4)},
		"hurt again":                     {append(slices.Clone(way), hurt(9, 8)), with(0, 1, 9)},
		"a symptom":                      {append(slices.Clone(way[:3]), symptom(9, 8)), with(0, 1, 9)},
		"a symptom at the first stage":   {[]api.RosterEvent{hurt(4, 8), symptom(7, 8)}, with(0, 1, 7)},
		"a symptom at the last stage":    {append(slices.Clone(way), symptom(9, 8)), with(0, 1, 9)},
		"a pass":                         {way[:2], with(0, 2, 5)},
		"days behind":                    {[]api.RosterEvent{hurt(4, 8), pass(44, 8)}, with(0, 2, 44)},
		"all stages":                     {way, with(0, 6, 9)},
		"cleared":                        {append(slices.Clone(way), clearing(10, 8)), with(0, 0, 10)},
		"cleared, days behind":           {append(slices.Clone(way), clearing(99, 8)), with(0, 0, 99)},
		"hurt behind being cleared":      {append(slices.Clone(way), clearing(10, 8), hurt(10, 8)), with(0, 1, 10)},
		"a match makes nobody healthier": {append(slices.Clone(way[:3]), match(6, 1)), with(0, 3, 6)},
		"on a sheet":                     {[]api.RosterEvent{match(4, 1, 4, 8)}, with(0, 0, 0)},
		"on a sheet on the day of a ban": {[]api.RosterEvent{match(4, 1, 8), suspend(4, 8, 1)}, with(1, 0, 0)},
	} {
		if m := mustPlay(t, append(slices.Clone(two), c.more...)); !slices.Equal(m, []api.Member{alone, c.want}) {
			t.Errorf("%s: %v, not %v", name, m, c.want)
		}
	}
}

// P11.1: the errors of each kind, and which of several it is. The events are those of the document, and more; then comes the last one.
func TestPlayErrors(t *testing.T) {
	way := append(passes(6, 9, 4), hurt(9, 5), suspend(9, 7, 1))
	for name, c := range map[string]struct {
		more []api.RosterEvent
		last api.RosterEvent
		e    api.Errno
	}{
		"a member of the club":               {nil, join(5, 7, 2), api.ErrTwice},
		"a member of another club":           {nil, join(5, 7, 3), api.ErrTwice},
		"suspended, but no member":           {nil, suspend(5, 6, 1), api.ErrNone},
		"hurt, but no member":                {nil, hurt(5, 6), api.ErrNone},
		"a symptom, but no member":           {nil, symptom(5, 6), api.ErrNone},
		"a pass, but no member":              {nil, pass(5, 6), api.ErrNone},
		"cleared, but no member":             {nil, clearing(5, 6), api.ErrNone},
		"a symptom, but not hurt":            {nil, symptom(5, 7), api.ErrState},
		"a pass, but not hurt":               {nil, pass(5, 7), api.ErrState},
		"cleared, but not hurt":              {nil, clearing(6, 7), api.ErrState},
		"a pass at the last stage":           {way, pass(10, 9), api.ErrState},
		"a pass at the last stage, same day": {way, pass(9, 9), api.ErrState},
		"cleared at the last stage but one":  {way[:3], clearing(9, 9), api.ErrState},
		"cleared at the first stage":         {way, clearing(10, 5), api.ErrState},
		"cleared too early, not last stage":  {way[:3], clearing(8, 9), api.ErrState},
		"a pass on the day of being hurt":    {way, pass(9, 5), api.ErrRefuse},
		"a pass on the day of another":       {nil, pass(5, 9), api.ErrRefuse},
		"cleared on the day of a pass":       {way, clearing(9, 9), api.ErrRefuse},
		"a pass on the day of a symptom":     {append(slices.Clone(way), symptom(9, 9)), pass(9, 9), api.ErrRefuse},
		"cleared twice":                      {append(slices.Clone(way), clearing(10, 9)), clearing(11, 9), api.ErrState},
		"a symptom behind being cleared":     {append(slices.Clone(way), clearing(10, 9)), symptom(11, 9), api.ErrState},
		"two matches on a day":               {[]api.RosterEvent{match(6, 2)}, match(6, 2), api.ErrTwice},
		"two matches, with nobody's":         {[]api.RosterEvent{match(6, 2)}, match(6, 2, 6), api.ErrTwice},
		"two matches, with others between":   {[]api.RosterEvent{match(6, 2), match(6, 3, 5), match(6, 4)}, match(6, 2), api.ErrTwice},
		"two matches, with the same one":     {[]api.RosterEvent{match(6, 3, 5)}, match(6, 3, 5), api.ErrTwice},
		"with no member":                     {nil, match(6, 3, 4), api.ErrNone},
		"with a member of another club":      {nil, match(6, 3, 7), api.ErrNone},
		"with one who is barred elsewhere":   {way, match(9, 3, 9), api.ErrNone},
		"with one who is suspended":          {nil, match(6, 2, 7), api.ErrRefuse},
		"with one who is hurt":               {nil, match(6, 2, 9), api.ErrRefuse},
		"with one at the last stage":         {way, match(30, 2, 9), api.ErrRefuse},
		"no member ahead of a barred one":    {nil, match(6, 2, 6, 7), api.ErrNone},
		"a barred one ahead of no member":    {nil, match(6, 2, 7, 8), api.ErrRefuse},
		"another's member ahead of a barred": {nil, match(6, 2, 5, 7), api.ErrNone},
		"the last one of the sheet":          {way, match(9, 3, 5), api.ErrRefuse},
		"earlier":                            {nil, hurt(4, 7), api.ErrOrder},
		"earlier, and no member":             {nil, hurt(4, 6), api.ErrOrder},
		"earlier, and a match on that day":   {nil, match(4, 2), api.ErrOrder},
		"earlier, and not valid":             {nil, suspend(4, 7, 0), api.ErrArg},
		"not valid, and no member":           {nil, suspend(5, 6, 21), api.ErrArg},
		"not valid, and a match on the day":  {[]api.RosterEvent{match(6, 2)}, match(6, 2, 9, 9), api.ErrArg},
	} {
		l := append(append(example(), c.more...), c.last)
		mustPlay(t, l[:len(l)-1])
		// An event behind the one with the error makes no difference.
		for _, l := range [][]api.RosterEvent{l, append(slices.Clone(l), api.RosterEvent{Day: -1})} {
			if m, n, e := roster.Play(l); len(m) > 0 || n != 7+len(c.more) || e != c.e {
				t.Errorf("%s: %v, %d, error %d", name, m, n, e)
			}
		}
	}
}

// P11.1: which events are valid; each one is the only one, or behind those that it needs.
func TestPlayValid(t *testing.T) {
	last := append(example(), passes(6, 9, 4)...)
	for _, c := range []struct {
		ahead []api.RosterEvent
		v     api.RosterEvent
	}{
		{nil, join(0, 0, 0)},
		{nil, join(api.MaxDay, api.MaxPerson, api.MaxClub)},
		{nil, match(0, 0)},
		{nil, match(api.MaxDay, api.MaxClub)},
		{crowd(9, 0, 21), match(0, 9, numbers(0, 20)...)},
		{[]api.RosterEvent{join(0, 0, 9), join(0, api.MaxPerson, 9)}, match(0, 9, 0, api.MaxPerson)},
		{example(), suspend(5, 7, 1)},
		{example(), suspend(5, 7, api.MaxBan)},
		{example(), hurt(5, 5)},
		{example(), symptom(5, 9)},
		{example(), pass(6, 9)},
		{last, clearing(10, 9)},
	} {
		mustPlay(t, append(slices.Clone(c.ahead), c.v))
		v := c.v
		v.Sheet = append([]int{}, v.Sheet...)
		mustPlay(t, append(slices.Clone(c.ahead), v))
		for _, day := range []int{math.MinInt, -1, api.MaxDay + 1, math.MaxInt} {
			v := c.v
			v.Day = day
			refused(t, c.ahead, v)
		}
		for _, person := range []int{math.MinInt, -1, api.MaxPerson + 1, math.MaxInt} {
			v := c.v
			v.Person = person
			refused(t, c.ahead, v)
		}
		for _, kind := range []int{math.MinInt, -1, 7, math.MaxInt} {
			v := c.v
			v.Kind = kind
			refused(t, c.ahead, v)
		}
	}
	for _, kind := range healing {
		for _, n := range []int{math.MinInt, -1, 1, 20, math.MaxInt} {
			refused(t, example(), api.RosterEvent{Day: 5, Kind: kind, Person: 9, N: n})
		}
	}
	for kind := api.Join; kind < api.Match; kind++ {
		v := api.RosterEvent{Day: 5, Kind: kind, Person: 9, Sheet: []int{0}}
		if kind == api.Suspend {
			v.N = 1
		}
		refused(t, example(), v)
	}
	for _, n := range []int{math.MinInt, -1, 0, api.MaxBan + 1, math.MaxInt} {
		refused(t, example(), suspend(5, 7, n))
	}
	for _, club := range []int{math.MinInt, -1, api.MaxClub + 1, math.MaxInt} {
		refused(t, nil, join(0, 0, club))
		refused(t, nil, match(0, club))
	}
	refused(t, crowd(0, 0, 3), api.RosterEvent{Kind: api.Match, Person: 1})
}

// P11.1: which sheets are valid.
func TestPlaySheets(t *testing.T) {
	l := crowd(9, 1, 25)
	for _, sheet := range [][]int{{}, {1}, {25}, {1, 25}, {3, 4, 9}, numbers(1, 20), numbers(6, 20)} {
		mustPlay(t, append(slices.Clone(l), match(0, 9, sheet...)))
	}
	for _, sheet := range [][]int{
		{-1}, {math.MinInt}, {api.MaxPerson + 1}, {math.MaxInt}, {-1, 1}, {1, api.MaxPerson + 1},
		{1, 1}, {2, 1}, {1, 3, 2}, {1, 2, 2}, {5, 6, 7, 5}, {1, -1}, numbers(1, 21), numbers(1, 25),
	} {
		refused(t, l, match(0, 9, sheet...))
	}
}

// refused checks that an event is not valid behind others that can be.
func refused(t *testing.T, ahead []api.RosterEvent, v api.RosterEvent) {
	t.Helper()
	if m, n, e := roster.Play(append(slices.Clone(ahead), v)); len(m) > 0 || n != len(ahead) || e != api.ErrArg {
		t.Errorf("%v: %v, %d, error %d", v, m, n, e)
	}
}

// P11.1: a club has 25 members at most, and whoever is a member already is told that first.
func TestPlayFull(t *testing.T) {
	l := crowd(9, 100, 25)
	if m := mustPlay(t, l); len(m) != 25 {
		t.Error(m)
	}
	for _, c := range []struct {
		v api.RosterEvent
		e api.Errno
	}{
		{join(0, 99, 9), api.ErrFull}, {join(0, 125, 9), api.ErrFull}, {join(7, 0, 9), api.ErrFull},
		{join(0, 100, 9), api.ErrTwice}, {join(0, 124, 9), api.ErrTwice}, {join(0, 100, 8), api.ErrTwice},
		{join(0, 125, 8), api.OK}, {join(0, 125, 10), api.OK},
	} {
		m, n, e := roster.Play(append(slices.Clone(l), c.v))
		want := 25
		if c.e == api.OK {
			want = 26
		}
		if n != want || e != c.e || c.e == api.OK && len(m) != 26 {
			t.Errorf("%v: %v, %d, error %d", c.v, m, n, e)
		}
	}
	both := append(crowd(9, 100, 25), crowd(8, 0, 25)...)
	if m := mustPlay(t, both); len(m) != 50 || m[0] != (api.Member{Club: 8}) || m[49] != (api.Member{Person: 124, Club: 9}) {
		t.Error(m)
	}
	if _, n, e := roster.Play(append(both, join(0, 50, 8))); n != 50 || e != api.ErrFull {
		t.Error(n, e)
	}
}

// P11.1: 256 events are not too many, 257 are, whatever they are.
func TestPlayLong(t *testing.T) {
	l := []api.RosterEvent{join(0, 1, 1)}
	for len(l) < api.MaxRosterEvents {
		l = append(l, suspend(0, 1, 20))
	}
	if m := mustPlay(t, l); !slices.Equal(m, []api.Member{{Person: 1, Club: 1, Ban: 5100}}) {
		t.Error(m)
	}
	for _, l := range [][]api.RosterEvent{append(l, l[1]), make([]api.RosterEvent, 257), append([]api.RosterEvent{{Day: -1}}, l...), slices.Repeat(l, 9)} {
		if m, n, e := roster.Play(l); len(m) > 0 || n != 0 || e != api.ErrLong {
			t.Error(m, n, e)
		}
	}
}

// P11.1: the first event has none ahead of it, and days may be left out, or be the same.
func TestPlayDays(t *testing.T) {
	mustPlay(t, []api.RosterEvent{join(api.MaxDay, 1, 1), hurt(api.MaxDay, 1)})
	mustPlay(t, []api.RosterEvent{join(0, 1, 1), hurt(0, 1), pass(1, 1), pass(api.MaxDay, 1)})
	for _, l := range [][]api.RosterEvent{{join(1, 1, 1), hurt(0, 1)}, {join(3, 1, 1), join(2, 1, 1)}, {match(api.MaxDay, 1), match(api.MaxDay-1, 1)}} {
		if m, n, e := roster.Play(l); len(m) > 0 || n != 1 || e != api.ErrOrder {
			t.Error(l, m, n, e)
		}
	}
}

// P11.1: random events have the members and the errors that the words of the chapter give them.
func TestPlayByWords(t *testing.T) {
	rnd := rand.New(rand.NewSource(111))
	seen := map[api.Errno]int{}
	for range 8000 {
		l := anyEvents(rnd)
		index, f := told(l)
		var want []api.Member
		if f == api.OK {
			want = history(l).members()
		}
		if m, n, e := roster.Play(l); !slices.Equal(m, want) || n != index || e != f {
			t.Fatalf("%v: %v, index %d, error %d, not %v, index %d, error %d", l, m, n, e, want, index, f)
		}
		seen[f]++
		for _, m := range want {
			if m.Ban > 0 && m.Stage > 0 {
				seen[-1]++
			}
			if m.Stage == 6 {
				seen[-2]++
			}
			if m.Stage == 0 && m.Since > 0 {
				seen[-3]++
			}
		}
	}
	for _, kind := range []api.Errno{api.OK, api.ErrArg, api.ErrNone, api.ErrTwice, api.ErrState, api.ErrOrder, api.ErrRefuse, -1, -2, -3} {
		if seen[kind] < 100 {
			t.Errorf("%d was seen only %d times", kind, seen[kind])
		}
	}
}

// P11.1: long seasons, as the words tell them.
func TestLongSeasons(t *testing.T) {
	rnd := rand.New(rand.NewSource(112))
	for range 60 {
		l := anySeason(rnd, api.MaxRosterEvents)
		if m := mustPlay(t, l); !slices.Equal(m, history(l).members()) {
			t.Fatalf("%v: %v", l, m)
		}
	}
}
