package panel_test

import (
	"math"
	"math/rand"
	"slices"
	"testing"

	"icehall/api"
	"icehall/panel"
)

// P8.3: the examples of the document, and other biases.
func TestBias(t *testing.T) {
	for name, c := range map[string]struct {
		m     api.Marks
		judge int
		want  api.Ratio
	}{
		"the example":            {marks(), 0, api.Ratio{Num: 120, Den: 1}},
		"the example's judge 1":  {marks(), 1, api.Ratio{Num: 135, Den: 2}},
		"against the own club":   {api.Marks{Skaters: []int{1, 2}, Judges: []int{1, 3}, Marks: [][]int{{10, 20}, {50, 50}}}, 0, api.Ratio{Num: -10, Den: 1}},
		"none: 0 / 1":            {api.Marks{Skaters: []int{1, 2}, Judges: []int{1, 3, 3}, Marks: [][]int{{20, 30, 20}, {40, 50, 40}}}, 0, api.Ratio{Num: 0, Den: 1}},
		"a half below 0":         {api.Marks{Skaters: []int{1, 2}, Judges: []int{1, 3, 4}, Marks: [][]int{{0, 0, 1}, {0, 0, 0}}}, 0, api.Ratio{Num: -1, Den: 2}},
		"a third":                {api.Marks{Skaters: []int{2, 1, 1, 1}, Judges: []int{3, 1}, Marks: [][]int{{0, 0}, {0, 1}, {7, 7}, {9, 9}}}, 1, api.Ratio{Num: 1, Den: 3}},
		"in lowest terms":        {api.Marks{Skaters: []int{2, 2, 1, 1}, Judges: []int{3, 1, 3}, Marks: [][]int{{0, 0, 1}, {0, 0, 1}, {0, 2, 1}, {5, 5, 5}}}, 1, api.Ratio{Num: 5, Den: 4}},
		"a judge of the club 0":  {api.Marks{Skaters: []int{0, 255}, Judges: []int{0, 255}, Marks: [][]int{{10_000, 0}, {0, 10_000}}}, 0, api.Ratio{Num: 20_000, Den: 1}},
		"one of the club 255":    {api.Marks{Skaters: []int{0, 255}, Judges: []int{0, 255}, Marks: [][]int{{10_000, 0}, {0, 10_000}}}, 1, api.Ratio{Num: 20_000, Den: 1}},
		"two judges of the club": {api.Marks{Skaters: []int{1, 2}, Judges: []int{1, 1}, Marks: [][]int{{9, 3}, {4, 5}}}, 1, api.Ratio{Num: -7, Den: 1}},
	} {
		if b, e := panel.Bias(c.m, c.judge); b != c.want || e != api.OK {
			t.Errorf("%s: %v, error %d, not %v", name, b, e, c.want)
		}
	}
}

// P8.3: a judge beyond all of them comes ahead of a bias that there is not.
func TestNoBias(t *testing.T) {
	for name, c := range map[string]struct {
		m     api.Marks
		judge int
		e     api.Errno
	}{
		"no skater of the club":           {marks(), 2, api.ErrNone},
		"judge -1":                        {marks(), -1, api.ErrRange},
		"judge 3 of three":                {marks(), 3, api.ErrRange},
		"the least judge":                 {marks(), math.MinInt, api.ErrRange},
		"the greatest judge":              {marks(), math.MaxInt, api.ErrRange},
		"nobody but skaters of the club":  {api.Marks{Skaters: []int{1, 1}, Judges: []int{1, 2}, Marks: [][]int{{1, 2}, {3, 4}}}, 0, api.ErrNone},
		"no other judge":                  {api.Marks{Skaters: []int{1, 2}, Judges: []int{1}, Marks: [][]int{{1}, {2}}}, 0, api.ErrNone},
		"no other judge, and no judge 1":  {api.Marks{Skaters: []int{1, 2}, Judges: []int{1}, Marks: [][]int{{1}, {2}}}, 1, api.ErrRange},
		"no skaters":                      {api.Marks{Judges: []int{1, 2}}, 1, api.ErrNone},
		"one judge, no skaters":           {api.Marks{Judges: []int{1}}, 0, api.ErrNone},
		"no skaters, and no judge 2":      {api.Marks{Judges: []int{1, 2}}, 2, api.ErrRange},
		"no judges":                       {api.Marks{Skaters: []int{1, 2}, Marks: make([][]int, 2)}, 0, api.ErrRange},
		"nothing":                         {api.Marks{}, 0, api.ErrRange},
		"one skater, of the own club":     {api.Marks{Skaters: []int{1}, Judges: []int{1, 2}, Marks: [][]int{{1, 2}}}, 0, api.ErrNone},
		"one skater, of the other's club": {api.Marks{Skaters: []int{1}, Judges: []int{1, 2}, Marks: [][]int{{1, 2}}}, 1, api.ErrNone},
	} {
		if b, e := panel.Bias(c.m, c.judge); b != (api.Ratio{}) || e != c.e {
			t.Errorf("%s: %v, error %d, not %d", name, b, e, c.e)
		}
	}
}

// P8.3, P8.4: marks that are not valid come ahead of a judge or a limit beyond its range.
func TestMarksNotValid(t *testing.T) {
	for name, m := range badMarks() {
		for _, n := range []int{-1, 0, 2, api.MaxMark + 1} {
			if b, e := panel.Bias(m, n); b != (api.Ratio{}) || e != api.ErrArg {
				t.Errorf("%s: Bias is %v, error %d", name, b, e)
			}
			if l, e := panel.Biased(m, n); len(l) > 0 || e != api.ErrArg {
				t.Errorf("%s: Biased is %v, error %d", name, l, e)
			}
		}
	}
}

// P8.3: the bias is the one that the words of the chapter give, in lowest terms, up to the most skaters and judges.
func TestBiasByWords(t *testing.T) {
	rnd := rand.New(rand.NewSource(3))
	seen := map[string]int{}
	for k := range 12000 {
		skaters, judges := rnd.Intn(7), rnd.Intn(5)
		if k%6 == 0 {
			skaters, judges = rnd.Intn(api.MaxSkaters+1), rnd.Intn(api.MaxJudges+1)
		}
		m := anyMarks(rnd, skaters, judges)
		for judge := range judges {
			b, e := panel.Bias(m, judge)
			want, found := biasBy(m, judge)
			if !found && (e != api.ErrNone || b != (api.Ratio{})) || found && (e != api.OK || !isBias(b, want)) {
				t.Fatalf("%v, judge %d: %v, error %d, not %v", m, judge, b, e, want)
			}
			switch {
			case !found:
				seen["none"]++
			case b.Num == 0:
				seen["0"]++
			case b.Num < 0:
				seen["below 0"]++
			}
			if b.Den > 1000 {
				seen["a great Den"]++
			}
		}
	}
	for _, kind := range []string{"none", "0", "below 0", "a great Den"} {
		if seen[kind] < 200 {
			t.Errorf("%s was seen only %d times", kind, seen[kind])
		}
	}
}

// P8.4: the examples of the document with limits around the biases.
func TestBiased(t *testing.T) {
	low := api.Marks{Skaters: []int{1, 2}, Judges: []int{1, 3, 2}, Marks: [][]int{{10, 20, 20}, {50, 50, 50}}}
	for name, c := range map[string]struct {
		m     api.Marks
		limit int
		want  []int
	}{
		"limit 0":                       {marks(), 0, []int{0, 1}},
		"just below 135 / 2":            {marks(), 67, []int{0, 1}},
		"just above 135 / 2":            {marks(), 68, []int{0}},
		"just below 120":                {marks(), 119, []int{0}},
		"120":                           {marks(), 120, nil},
		"the greatest limit":            {marks(), api.MaxMark, nil},
		"below 0: just above the limit": {low, 9, []int{0}},
		"below 0: the limit":            {low, 10, nil},
		"below 0: rising":               {low, 4, []int{0, 2}},
		"the greatest biases":           {api.Marks{Skaters: []int{1, 2}, Judges: []int{1, 2}, Marks: [][]int{{10_000, 0}, {0, 10_000}}}, api.MaxMark, []int{0, 1}},
		"none has a bias":               {api.Marks{Skaters: []int{1, 2}, Judges: []int{1}, Marks: [][]int{{9}, {0}}}, 0, nil},
		"a bias of 0":                   {api.Marks{Skaters: []int{1, 2}, Judges: []int{1, 2}, Marks: [][]int{{9, 9}, {0, 0}}}, 0, nil},
		"no judges":                     {api.Marks{Skaters: []int{1}, Marks: [][]int{nil}}, 0, nil},
		"nothing":                       {api.Marks{}, 0, nil},
	} {
		if l, e := panel.Biased(c.m, c.limit); !slices.Equal(l, c.want) || e != api.OK {
			t.Errorf("%s: %v, error %d, not %v", name, l, e, c.want)
		}
	}
	for _, limit := range []int{math.MinInt, -1, api.MaxMark + 1, math.MaxInt} {
		for _, m := range []api.Marks{marks(), {}} {
			if l, e := panel.Biased(m, limit); len(l) > 0 || e != api.ErrRange {
				t.Errorf("limit %d: %v, error %d", limit, l, e)
			}
		}
	}
}

// P8.4: the judges are those whose bias is beyond the limit, with limits close to one of the biases.
func TestBiasedByWords(t *testing.T) {
	rnd := rand.New(rand.NewSource(4))
	some := 0
	for range 3000 {
		m := anyMarks(rnd, 1+rnd.Intn(8), 1+rnd.Intn(api.MaxJudges))
		limit := rnd.Intn(5)
		if b, found := biasBy(m, rnd.Intn(len(m.Judges))); found {
			f, _ := b.Float64()
			limit = min(max(int(math.Abs(f))+rnd.Intn(3)-1, 0), api.MaxMark)
		}
		var want []int
		for judge := range m.Judges {
			if b, found := biasBy(m, judge); found && b.Abs(b).Cmp(rat(api.Ratio{Num: limit, Den: 1})) > 0 {
				want = append(want, judge)
			}
		}
		if l, e := panel.Biased(m, limit); !slices.Equal(l, want) || e != api.OK {
			t.Fatalf("%v, limit %d: %v, error %d, not %v", m, limit, l, e, want)
		}
		if len(want) > 0 && len(want) < len(m.Judges) {
			some++
		}
	}
	if some < 1000 {
		t.Error("too few marks by which some are biased", some)
	}
}
