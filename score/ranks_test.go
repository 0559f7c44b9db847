package score_test

import (
	"math"
	"math/rand"
	"slices"
	"testing"

	"icehall/api"
	"icehall/score"
)

// P7.3: the place is 1 and the number of those whose score is better, by the Total, and then by the Elements.
func TestRanks(t *testing.T) {
	of := func(total, elements int) api.Score { return api.Score{Total: total, Elements: elements} }
	for name, c := range map[string]struct {
		l    []api.Score
		want []int
	}{
		"the example":                     {[]api.Score{of(900, 5), of(800, 6), of(800, 7), of(700, 8)}, []int{1, 3, 2, 4}},
		"the example, two as good":        {[]api.Score{of(800, 6), of(800, 6), of(700, 8)}, []int{1, 1, 3}},
		"none":                            {nil, nil},
		"one":                             {[]api.Score{of(0, 0)}, []int{1}},
		"as given, the worst first":       {[]api.Score{of(1, 0), of(2, 0), of(3, 0)}, []int{3, 2, 1}},
		"all as good":                     {[]api.Score{of(4, 4), of(4, 4), of(4, 4)}, []int{1, 1, 1}},
		"two as good at the end":          {[]api.Score{of(4, 4), of(5, 4), of(4, 4)}, []int{2, 1, 2}},
		"two as good in the middle":       {[]api.Score{of(4, 4), of(5, 4), of(3, 9), of(4, 4)}, []int{2, 1, 4, 2}},
		"Parts and Off do not matter":     {[]api.Score{{Elements: 6, Parts: 1, Total: 800}, {Elements: 6, Off: 2, Total: 800}, {Elements: 7, Total: 799}}, []int{1, 1, 3}},
		"Total need not be what is added": {[]api.Score{{Elements: 900, Parts: 900, Total: 1}, {Off: 900, Total: 2}}, []int{2, 1}},
		"below 0":                         {[]api.Score{of(-5, -1), of(-4, -1), of(-5, -2), of(-5, 0)}, []int{3, 1, 4, 2}},
		"the least and greatest numbers":  {[]api.Score{of(math.MinInt, math.MaxInt), of(math.MaxInt, math.MinInt), of(math.MaxInt, math.MaxInt), of(math.MinInt, math.MinInt)}, []int{3, 2, 1, 4}},
	} {
		if l := mustRank(t, c.l); !slices.Equal(l, c.want) {
			t.Errorf("%s: %v", name, l)
		}
	}
}

// P7.3: 40 scores are not too many, 41 are.
func TestRanksLong(t *testing.T) {
	l := make([]api.Score, api.MaxSkatings)
	for i := range l {
		l[i].Total = i
	}
	for i, place := range mustRank(t, l) {
		if place != api.MaxSkatings-i {
			t.Error(i, place)
		}
	}
	if places, e := score.Ranks(append(l, api.Score{})); len(places) != 0 || e != api.ErrLong {
		t.Error(places, e)
	}
}

// P7.3: the places of any scores are those that the words of the chapter give.
func TestRanksModel(t *testing.T) {
	rnd := rand.New(rand.NewSource(73))
	for range 10000 {
		var l []api.Score
		for range rnd.Intn(9) {
			l = append(l, api.Score{Elements: rnd.Intn(3), Parts: rnd.Intn(3), Off: rnd.Intn(3), Total: rnd.Intn(4)})
		}
		if places, want := mustRank(t, l), placesBy(l); !slices.Equal(places, want) {
			t.Fatalf("Ranks(%v) = %v, not %v", l, places, want)
		}
	}
}
