package clock_test

import (
	"math"
	"math/rand"
	"slices"
	"testing"

	"icehall/api"
	"icehall/clock"
)

// P9.1: the examples of the document.
func TestPlayExamples(t *testing.T) {
	want := api.Board{Played: 130, Goals: [2]int{0, 1}, Penalties: penalties([]api.Penalty{minor(9, 20), minor(8, 70)}, nil)}
	if b, n, e := clock.Play(example()); !same(b, want) || n != 9 || e != api.OK {
		t.Error(b, n, e)
	}
	if b, n, e := clock.Play(append(example(), goal(270, 1))); !same(b, api.Board{}) || n != 9 || e != api.ErrState {
		t.Error(b, n, e)
	}
}

// P9.1: each error of each kind, and which one comes first.
func TestPlayErrors(t *testing.T) {
	const kinds = api.ClockMisconduct + 1
	over := wholeGame()
	for name, c := range map[string]struct {
		l []api.ClockEvent
		n int
		e api.Errno
	}{
		"start while it runs":                {[]api.ClockEvent{start(0), start(1199)}, 1, api.ErrState},
		"start at once again":                {[]api.ClockEvent{start(5), start(5)}, 1, api.ErrState},
		"start when the period is over":      {[]api.ClockEvent{start(0), start(1200)}, 2, api.OK},
		"start in the last period":           {append(slices.Clone(over), start(3599)), 3, api.ErrState},
		"start behind the last period":       {append(slices.Clone(over), start(3600)), 3, api.ErrFull},
		"start long behind the last period":  {append(slices.Clone(over), start(api.MaxSeconds)), 3, api.ErrFull},
		"start again in the last period":     {append(slices.Clone(over), stop(3599), start(3599)), 5, api.OK},
		"stop at first":                      {[]api.ClockEvent{stop(0)}, 0, api.ErrState},
		"stop at once":                       {[]api.ClockEvent{start(7), stop(7)}, 2, api.OK},
		"stop twice":                         {[]api.ClockEvent{start(7), stop(9), stop(9)}, 2, api.ErrState},
		"stop when the period is over":       {[]api.ClockEvent{start(0), stop(1200)}, 1, api.ErrState},
		"stop in the last second":            {[]api.ClockEvent{start(0), stop(1199)}, 2, api.OK},
		"goal at first":                      {[]api.ClockEvent{goal(3, 0)}, 0, api.ErrState},
		"goal behind a goal":                 {[]api.ClockEvent{start(0), goal(3, 0), goal(3, 0)}, 2, api.ErrState},
		"goal when the period is over":       {[]api.ClockEvent{start(0), goal(1200, 0)}, 1, api.ErrState},
		"goal in the last second":            {[]api.ClockEvent{start(0), goal(1199, 0)}, 2, api.OK},
		"minor while it runs":                {[]api.ClockEvent{start(0), give(api.ClockMinor, 9, 0, 1)}, 1, api.ErrState},
		"double while it runs":               {[]api.ClockEvent{start(0), give(api.ClockDouble, 9, 0, 1)}, 1, api.ErrState},
		"major while it runs":                {[]api.ClockEvent{start(0), give(api.ClockMajor, 9, 0, 1)}, 1, api.ErrState},
		"misconduct while it runs":           {[]api.ClockEvent{start(0), give(api.ClockMisconduct, 9, 0, 1)}, 1, api.ErrState},
		"misconduct when the period is over": {[]api.ClockEvent{start(0), give(api.ClockMisconduct, 1200, 0, 1)}, 2, api.OK},
		"major behind the last period":       {append(slices.Clone(over), give(api.ClockMajor, 3600, 1, 1)), 4, api.OK},
		"not in order":                       {[]api.ClockEvent{start(7), stop(6)}, 1, api.ErrOrder},
		"not in order, behind others":        {[]api.ClockEvent{start(7), stop(9), start(12), stop(11)}, 3, api.ErrOrder},
		"before the time that passed by":     {[]api.ClockEvent{start(0), give(api.ClockMinor, 4000, 0, 1), start(3999)}, 2, api.ErrOrder},
		"not in order ahead of its state":    {[]api.ClockEvent{start(7), start(6)}, 1, api.ErrOrder},
		"not valid ahead of not in order":    {[]api.ClockEvent{start(7), goal(6, 2)}, 1, api.ErrArg},
		"not valid ahead of its state":       {[]api.ClockEvent{goal(0, -1)}, 0, api.ErrArg},
		"the first one with an error":        {[]api.ClockEvent{start(0), stop(5), stop(5), {Kind: kinds}}, 2, api.ErrState},
		"no events":                          {nil, 0, api.OK},
	} {
		b, n, e := clock.Play(c.l)
		if n != c.n || e != c.e || e != api.OK && !same(b, api.Board{}) {
			t.Errorf("%s: %v, index %d, error %d, not index %d, error %d", name, b, n, e, c.n, c.e)
		}
	}
}

// P9.1: at most MaxClockEvents events, whatever else is wrong with them.
func TestPlayLong(t *testing.T) {
	var l []api.ClockEvent
	for range api.MaxClockEvents / 2 {
		l = append(l, start(0), stop(0))
	}
	if b := mustPlay(t, l); !same(b, api.Board{}) {
		t.Error(b)
	}
	for _, v := range []api.ClockEvent{start(0), stop(0), {Kind: -1}} {
		if b, n, e := clock.Play(append(slices.Clone(l), v)); !same(b, api.Board{}) || n != 0 || e != api.ErrLong {
			t.Error(b, n, e)
		}
	}
	if _, n, e := clock.Play(slices.Repeat([]api.ClockEvent{{Kind: 7}}, api.MaxClockEvents+1)); n != 0 || e != api.ErrLong {
		t.Error(n, e)
	}
}

// P9.1: what is valid, for each kind: the second, and the team and the player where they are looked at.
func TestPlayValid(t *testing.T) {
	for kind := -2; kind < 10; kind++ {
		var before []api.ClockEvent
		if kind == api.ClockStop || kind == api.ClockGoal {
			before = []api.ClockEvent{start(0)}
		}
		try := func(v api.ClockEvent, valid bool) {
			t.Helper()
			b, n, e := clock.Play(append(slices.Clone(before), v))
			if (e != api.ErrArg) != valid || !valid && (n != len(before) || !same(b, api.Board{})) {
				t.Errorf("%v: %v, index %d, error %d", v, b, n, e)
			}
		}
		listed := 0 <= kind && kind <= 6
		for _, second := range []int{math.MinInt, -1, 0, 1, api.MaxSeconds - 1, api.MaxSeconds, api.MaxSeconds + 1, math.MaxInt} {
			try(api.ClockEvent{Kind: kind, Second: second}, listed && 0 <= second && second <= 1<<20)
		}
		for _, team := range []int{math.MinInt, -1, 0, 1, 2, math.MaxInt} {
			try(api.ClockEvent{Kind: kind, Team: team}, listed && (kind < 2 || team == 0 || team == 1))
		}
		for _, player := range []int{math.MinInt, -1, 0, 1, 4094, 4095, 4096, math.MaxInt} {
			try(api.ClockEvent{Kind: kind, Player: player}, listed && (kind < 3 || 0 <= player && player <= 4095))
		}
	}
	for _, kind := range []int{math.MinInt, math.MaxInt} {
		if _, n, e := clock.Play([]api.ClockEvent{{Kind: kind}}); n != 0 || e != api.ErrArg {
			t.Error(kind, n, e)
		}
	}
}

// P9.1: periods begin and end, and nothing is served in between.
func TestPeriods(t *testing.T) {
	for name, c := range map[string]struct {
		l    []api.ClockEvent
		want api.Board
	}{
		"the first second of the second one": {[]api.ClockEvent{start(0), start(2000), stop(2001)}, api.Board{Period: 1, Played: 1}},
		"the second one begins":              {[]api.ClockEvent{start(0), start(2000)}, api.Board{Period: 1, Runs: true}},
		"it goes on behind a whistle":        {[]api.ClockEvent{start(0), stop(700), start(900), start(1400)}, api.Board{Period: 1, Runs: true}},
		"a penalty in between": {
			[]api.ClockEvent{start(0), stop(1150), give(api.ClockMajor, 1150, 1, 3), give(api.ClockMisconduct, 1150, 0, 3), start(1160), start(2000), stop(2025)},
			api.Board{Period: 1, Played: 25, Penalties: penalties(nil, []api.Penalty{major(3, 225)}), Misconducts: penalties([]api.Penalty{misconduct(3, 525)}, nil)},
		},
		"a penalty when it is over": {
			[]api.ClockEvent{start(0), give(api.ClockMinor, 1500, 1, 3), start(2000), stop(2025)},
			api.Board{Period: 1, Played: 25, Penalties: penalties(nil, []api.Penalty{minor(3, 95)})},
		},
		"a penalty ends with the period": {
			[]api.ClockEvent{start(0), stop(1080), give(api.ClockMinor, 1080, 1, 3), start(1080), give(api.ClockMinor, 1200, 1, 4)},
			api.Board{Played: 1200, Penalties: penalties(nil, []api.Penalty{minor(4, 120)})},
		},
		"the last one is over": {append(wholeGame(), give(api.ClockMinor, 9999, 0, 1)), api.Board{Period: 2, Played: 1200, Penalties: penalties([]api.Penalty{minor(1, 120)}, nil)}},
	} {
		if b := mustPlay(t, c.l); !same(b, c.want) {
			t.Errorf("%s: %v, not %v", name, b, c.want)
		}
	}
}

// P9.1, P9.6: which penalties are served, and in which order they are listed. Each list was given to the team 1 at 0; then so many seconds are played.
func TestServed(t *testing.T) {
	kinds := func(l ...int) []api.ClockEvent {
		var events []api.ClockEvent
		for i := 0; i < len(l); i += 2 {
			events = append(events, give(l[i], 0, 1, l[i+1]))
		}
		return events
	}
	const a, d, m = api.ClockMinor, api.ClockDouble, api.ClockMajor
	for name, c := range map[string]struct {
		l       []api.ClockEvent
		seconds int
		want    []api.Penalty
	}{
		"one":                                             {kinds(a, 4), 30, []api.Penalty{minor(4, 90)}},
		"one, nearly over":                                {kinds(a, 4), 119, []api.Penalty{minor(4, 1)}},
		"one, over":                                       {kinds(a, 4), 120, nil},
		"two of two":                                      {kinds(a, 4, m, 5), 30, []api.Penalty{minor(4, 90), major(5, 270)}},
		"the third one waits":                             {kinds(a, 4, m, 5, a, 6), 120, []api.Penalty{major(5, 180), minor(6, 120)}},
		"the third one goes on":                           {kinds(a, 4, m, 5, a, 6), 121, []api.Penalty{major(5, 179), minor(6, 119)}},
		"a double one":                                    {kinds(d, 4), 30, []api.Penalty{minor(4, 90), minor(4, 120)}},
		"a double one, half of it":                        {kinds(d, 4), 120, []api.Penalty{minor(4, 120)}},
		"a double one, over":                              {kinds(d, 4), 240, nil},
		"another player is served ahead":                  {kinds(d, 4, a, 5), 30, []api.Penalty{minor(4, 90), minor(4, 120), minor(5, 90)}},
		"of the other player the first one":               {kinds(d, 4, a, 5, a, 6), 30, []api.Penalty{minor(4, 90), minor(4, 120), minor(5, 90), minor(6, 120)}},
		"and then the next one":                           {kinds(d, 4, a, 5, a, 6), 130, []api.Penalty{minor(4, 110), minor(6, 110)}},
		"the same player behind another one":              {kinds(a, 4, d, 5), 30, []api.Penalty{minor(4, 90), minor(5, 90), minor(5, 120)}},
		"the same player again":                           {kinds(a, 4, m, 5, a, 4), 121, []api.Penalty{major(5, 179), minor(4, 119)}},
		"the second one's second one":                     {kinds(m, 4, a, 5, a, 5), 121, []api.Penalty{major(4, 179), minor(5, 119)}},
		"the order stays, though the later one is served": {kinds(m, 4, a, 5, a, 4, a, 6), 130, []api.Penalty{major(4, 170), minor(4, 120), minor(6, 110)}},
		"two end at once":                                 {kinds(a, 4, a, 5, a, 6, a, 7), 125, []api.Penalty{minor(6, 115), minor(7, 115)}},
	} {
		want := api.Board{Played: c.seconds, Penalties: penalties(nil, c.want)}
		if b := mustPlay(t, append(c.l, start(50), stop(50+c.seconds))); !same(b, want) {
			t.Errorf("%s: %v, not %v", name, b, want)
		}
	}
}

// P9.1: misconducts are served all at once, whoever has them, and until they are over.
func TestMisconducts(t *testing.T) {
	l := []api.ClockEvent{give(api.ClockMisconduct, 0, 0, 5), give(api.ClockMisconduct, 0, 0, 5), give(api.ClockMisconduct, 0, 0, 6), give(api.ClockMinor, 0, 0, 5), start(0), stop(50), give(api.ClockMisconduct, 50, 0, 5)}
	want := api.Board{
		Played:      50,
		Penalties:   penalties([]api.Penalty{minor(5, 70)}, nil),
		Misconducts: penalties([]api.Penalty{misconduct(5, 550), misconduct(5, 550), misconduct(6, 550), misconduct(5, 600)}, nil),
	}
	if b := mustPlay(t, l); !same(b, want) {
		t.Error(b)
	}
	for played, want := range map[int][]api.Penalty{
		549: {misconduct(5, 1), misconduct(5, 1), misconduct(6, 1), misconduct(5, 51)},
		550: {misconduct(5, 50)},
		599: {misconduct(5, 1)},
		600: nil,
	} {
		b := mustPlay(t, append(slices.Clone(l), start(100), stop(100+played)))
		if !same(b, api.Board{Played: 50 + played, Misconducts: penalties(want, nil)}) {
			t.Error(played, b)
		}
	}
}

// P9.1, P9.7: which penalty a goal of the team 0 ends. All penalties were given at 0; the goal falls behind so many seconds.
func TestGoal(t *testing.T) {
	const a, d, m, x = api.ClockMinor, api.ClockDouble, api.ClockMajor, api.ClockMisconduct
	for name, c := range map[string]struct {
		l         []api.ClockEvent
		seconds   int
		zero, one []api.Penalty
	}{
		"nobody has any":                   {nil, 10, nil, nil},
		"the only one":                     {[]api.ClockEvent{give(a, 0, 1, 5)}, 10, nil, nil},
		"in its last second":               {[]api.ClockEvent{give(a, 0, 1, 5), give(a, 0, 1, 5)}, 119, nil, []api.Penalty{minor(5, 120)}},
		"in the first second of the next":  {[]api.ClockEvent{give(a, 0, 1, 5), give(a, 0, 1, 5)}, 120, nil, nil},
		"the own one goes on":              {[]api.ClockEvent{give(a, 0, 0, 5)}, 10, []api.Penalty{minor(5, 110)}, nil},
		"the first of two":                 {[]api.ClockEvent{give(a, 0, 1, 5), give(a, 0, 1, 6)}, 10, nil, []api.Penalty{minor(6, 110)}},
		"the first of a double one":        {[]api.ClockEvent{give(d, 0, 1, 5)}, 10, nil, []api.Penalty{minor(5, 120)}},
		"a double one behind another":      {[]api.ClockEvent{give(m, 0, 1, 4), give(d, 0, 1, 5)}, 10, nil, []api.Penalty{major(4, 290), minor(5, 120)}},
		"a major one goes on":              {[]api.ClockEvent{give(m, 0, 1, 5)}, 10, nil, []api.Penalty{major(5, 290)}},
		"two major ones go on":             {[]api.ClockEvent{give(m, 0, 1, 5), give(m, 0, 1, 6), give(a, 0, 1, 7)}, 10, nil, []api.Penalty{major(5, 290), major(6, 290), minor(7, 120)}},
		"a minor one behind a major one":   {[]api.ClockEvent{give(m, 0, 1, 5), give(a, 0, 1, 6)}, 10, nil, []api.Penalty{major(5, 290)}},
		"one that waits goes on":           {[]api.ClockEvent{give(m, 0, 1, 5), give(a, 0, 1, 5)}, 10, nil, []api.Penalty{major(5, 290), minor(5, 120)}},
		"one that waits, though first":     {[]api.ClockEvent{give(m, 0, 1, 5), give(a, 0, 1, 5), give(a, 0, 1, 6)}, 10, nil, []api.Penalty{major(5, 290), minor(5, 120)}},
		"alike":                            {[]api.ClockEvent{give(a, 0, 1, 5), give(a, 0, 0, 5)}, 10, []api.Penalty{minor(5, 110)}, []api.Penalty{minor(5, 110)}},
		"alike, two each":                  {[]api.ClockEvent{give(a, 0, 1, 5), give(m, 0, 0, 5), give(a, 0, 1, 6), give(a, 0, 0, 6)}, 10, []api.Penalty{major(5, 290), minor(6, 110)}, []api.Penalty{minor(5, 110), minor(6, 110)}},
		"three on the list are as two":     {[]api.ClockEvent{give(a, 0, 1, 5), give(a, 0, 1, 6), give(a, 0, 1, 7), give(m, 0, 0, 5), give(m, 0, 0, 6)}, 10, []api.Penalty{major(5, 290), major(6, 290)}, []api.Penalty{minor(5, 110), minor(6, 110), minor(7, 120)}},
		"a double one is as one":           {[]api.ClockEvent{give(d, 0, 1, 5), give(a, 0, 0, 5)}, 10, []api.Penalty{minor(5, 110)}, []api.Penalty{minor(5, 110), minor(5, 120)}},
		"two against one":                  {[]api.ClockEvent{give(a, 0, 1, 5), give(a, 0, 0, 5), give(a, 0, 1, 6)}, 10, []api.Penalty{minor(5, 110)}, []api.Penalty{minor(6, 110)}},
		"one against two":                  {[]api.ClockEvent{give(a, 0, 1, 5), give(a, 0, 0, 5), give(a, 0, 0, 6)}, 10, []api.Penalty{minor(5, 110), minor(6, 110)}, []api.Penalty{minor(5, 110)}},
		"alike when it falls":              {[]api.ClockEvent{give(a, 0, 1, 5), give(m, 0, 1, 6), give(m, 0, 0, 5)}, 120, []api.Penalty{major(5, 180)}, []api.Penalty{major(6, 180)}},
		"short when it falls":              {[]api.ClockEvent{give(d, 0, 1, 5), give(a, 0, 0, 5)}, 120, nil, nil},
		"at once":                          {[]api.ClockEvent{give(a, 0, 1, 5)}, 0, nil, nil},
		"a misconduct makes no difference": {[]api.ClockEvent{give(a, 0, 1, 5), give(x, 0, 0, 5), give(x, 0, 0, 6)}, 10, nil, nil},
	} {
		b := mustPlay(t, append(slices.Clone(c.l), start(50), goal(50+c.seconds, 0)))
		b.Misconducts = penalties(nil, nil)
		want := api.Board{Played: c.seconds, Goals: [2]int{1, 0}, Penalties: penalties(c.zero, c.one)}
		if !same(b, want) {
			t.Errorf("%s: %v, not %v", name, b, want)
		}
		for i := range c.l {
			c.l[i].Team = 1 - c.l[i].Team
		}
		b = mustPlay(t, append(c.l, start(50), goal(50+c.seconds, 1)))
		b.Misconducts = penalties(nil, nil)
		want = api.Board{Played: c.seconds, Goals: [2]int{0, 1}, Penalties: penalties(c.one, c.zero)}
		if !same(b, want) {
			t.Errorf("%s, the teams changed: %v, not %v", name, b, want)
		}
	}
	one := []api.ClockEvent{give(x, 0, 1, 5), start(0), goal(20, 0)}
	if b := mustPlay(t, one); !same(b, api.Board{Played: 20, Goals: [2]int{1, 0}, Misconducts: penalties(nil, []api.Penalty{misconduct(5, 580)})}) {
		t.Error("a misconduct goes on:", b)
	}
}

// P9.1: random events have the boards and the errors that the words of the chapter give them.
func TestPlayByWords(t *testing.T) {
	rnd := rand.New(rand.NewSource(91))
	seen := map[api.Errno]int{}
	for range 3000 {
		l := anyEvents(rnd)
		m := &model{}
		index, f := m.play(l)
		want := api.Board{}
		if f == api.OK {
			want = m.board()
		}
		if b, n, e := clock.Play(l); !same(b, want) || n != index || e != f {
			t.Fatalf("%v: %v, index %d, error %d, not %v, index %d, error %d", l, b, n, e, want, index, f)
		}
		seen[f]++
		if len(want.Penalties[0]) > 2 || len(want.Penalties[1]) > 2 {
			seen[-1]++
		}
		if want.Period == 2 {
			seen[-2]++
		}
		if m.stopped > 0 && f == api.OK {
			seen[-3]++
		}
	}
	for _, kind := range []api.Errno{api.OK, api.ErrArg, api.ErrOrder, api.ErrState, -1, -2, -3} {
		if seen[kind] < 100 {
			t.Errorf("%d was seen only %d times", kind, seen[kind])
		}
	}
}

// P9.1: long games, as the words tell them.
func TestLongGames(t *testing.T) {
	rnd := rand.New(rand.NewSource(92))
	ended := 0
	for range 300 {
		l := anyGame(rnd, api.MaxClockEvents)
		m := told(t, l)
		if b := mustPlay(t, l); !same(b, m.board()) {
			t.Fatalf("%v: %v, not %v", l, b, m.board())
		}
		ended += m.stopped
	}
	if ended < 1000 {
		t.Error("too few penalties were ended by goals", ended)
	}
}
