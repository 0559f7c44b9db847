package score_test

import (
	"math/rand"
	"slices"
	"testing"

	"icehall/api"
	"icehall/score"
)

// P7.2: the examples of the document.
func TestValues(t *testing.T) {
	r, s := example()
	if l := mustValues(t, r, s); !slices.Equal(l, []int{933, 253, 420}) {
		t.Error(l)
	}
	s.Calls = append(s.Calls, call(0, 1, 0, 0, 0, 0, 0))
	if l := mustValues(t, r, s); !slices.Equal(l, []int{933, 253, 420, 500}) {
		t.Error(l)
	}
	r.Most = 1
	if l := mustValues(t, r, s); !slices.Equal(l, []int{933, 0, 420, 500}) {
		t.Error(l)
	}
	if l := mustValues(t, r, api.Skating{Parts: s.Parts, Over: 600}); len(l) != 0 {
		t.Error(l)
	}
}

// P7.2: both numbers are rounded, each alone, to the nearest one, of two to the one farther from 0.
func TestRounded(t *testing.T) {
	for _, c := range []struct {
		base, under int
		late        bool
		marks       []int
		want        int
	}{
		{100, 0, false, []int{0}, 100},
		{100, 1, false, []int{0}, 80},
		{100, 2, false, []int{0}, 60},
		{100, 0, true, []int{0}, 110},
		{100, 1, true, []int{0}, 88},
		{100, 2, true, []int{0}, 66},
		{100, 2, false, []int{5}, 90},
		{100, 2, true, []int{-5}, 36},
		{4, 0, true, []int{0}, 4},
		{5, 0, true, []int{0}, 6},
		{15, 0, true, []int{0}, 17},
		{25, 2, true, []int{0}, 17},
		{3, 1, false, []int{0}, 2},
		{2, 2, false, []int{0}, 1},
		{5, 0, false, []int{1}, 6},
		{5, 0, false, []int{-1}, 4},
		{4, 0, false, []int{1}, 4},
		{4, 0, false, []int{-1}, 4},
		{6, 0, false, []int{-1}, 5},
		{15, 0, false, []int{-1}, 13},
		{1, 0, false, []int{-5}, 0},
		{1, 0, false, []int{5}, 2},
		{1, 0, true, []int{5}, 2},
		{9, 2, false, []int{-5}, 2},
		{100, 0, false, []int{1, 1, 2}, 113},
		{100, 0, false, []int{-1, -1, -2}, 87},
		{100, 0, false, []int{1, 0, 0}, 103},
		{100, 0, false, []int{0, 0, -1}, 97},
		{5, 0, true, []int{1}, 7},
		{5, 0, true, []int{-1}, 5},
		{0, 2, true, []int{5}, 0},
		{2000, 0, true, []int{5, 5, 5, 5}, 3200},
		{2000, 2, false, []int{-5, -5, -5, -5}, 600},
	} {
		s := api.Skating{Calls: []api.Called{{Under: c.under, Late: c.late, Marks: c.marks}}}
		if l := mustValues(t, api.Rules{Bases: []int{c.base}, Most: 1}, s); !slices.Equal(l, []int{c.want}) {
			t.Errorf("%v: %v", c, l)
		}
	}
}

// P7.2: up to four marks all count; of five and more all but one of the greatest and one of the least.
func TestMarksThatCount(t *testing.T) {
	r := api.Rules{Bases: []int{1000}, Most: 1}
	for _, c := range []struct {
		marks []int
		want  int
	}{
		{[]int{5}, 1500},
		{[]int{5, -5}, 1000},
		{[]int{5, 0, 1}, 1200},
		{[]int{5, 0, 0, -1}, 1100},
		{[]int{5, 0, 0, 0, -5}, 1000},
		{[]int{5, 0, 0, -1, 5}, 1167},
		{[]int{5, 5, 0, -5, -5}, 1000},
		{[]int{-5, -5, -4, -5, -3}, 533},
		{[]int{1, 2, 3, 4, 5, -5}, 1250},
		{[]int{5, 5, 5, 5, 5, 5, 5, 5, -5}, 1500},
		{[]int{5, -5, -5, -5, -5, -5, -5, -5, -5}, 500},
		{[]int{5, 4, 3, 2, 1, 0, -1, -2}, 1150},
		{[]int{3, 3, 3, 3, 3, 3, 3}, 1300},
		{[]int{5, 5, 0, 0, 0, 0, 0}, 1100},
	} {
		if l := mustValues(t, r, single(c.marks...)); !slices.Equal(l, []int{c.want}) {
			t.Errorf("%v: %v", c.marks, l)
		}
	}
}

// P7.2: of the calls of an element those with the least places count, wherever they stand.
func TestCallsThatCount(t *testing.T) {
	for most := 1; most <= api.MaxCalled; most++ {
		r := api.Rules{Bases: []int{100, 200}, Most: most}
		var s api.Skating
		var want []int
		for i := range api.MaxCalled {
			place := i * 7 % api.MaxCalled // Even places are of element 0, odd ones of element 1.
			s.Calls = append(s.Calls, call(90-place, place%2, 0))
			value := 0
			if (api.MaxCalled-1-place)/2 < most {
				value = r.Bases[place%2]
			}
			want = append(want, value)
		}
		if l := mustValues(t, r, s); !slices.Equal(l, want) {
			t.Errorf("most %d: %v, not %v", most, l, want)
		}
	}
}

// P7.2: an element counts once for all its calls, whatever was missing of them, and elements of the same base are two.
func TestSameElement(t *testing.T) {
	r := api.Rules{Bases: []int{100, 100}, Most: 1}
	s := api.Skating{Calls: []api.Called{{Place: 5, Under: 2, Marks: []int{0}}, {Place: 9, Late: true, Marks: []int{5}}, call(7, 1, 0), {Place: 4, Element: 1, Fall: true, Marks: []int{-5}}}}
	if l := mustValues(t, r, s); !slices.Equal(l, []int{60, 0, 0, 50}) {
		t.Error(l)
	}
}

// P7.2: the values of any skating are those that the words of the chapter give.
func TestValuesModel(t *testing.T) {
	rnd := rand.New(rand.NewSource(72))
	none, many := 0, 0
	for range 8000 {
		r := anyRules(rnd)
		s := anySkating(rnd, r, 1+rnd.Intn(api.MaxPanel), api.MaxCalled, 2)
		l, want := mustValues(t, r, s), valuesBy(r, s)
		if !slices.Equal(l, want) {
			t.Fatalf("Values(%v, %v) = %v, not %v", r, s, l, want)
		}
		for _, v := range l {
			if v == 0 {
				none++
			} else {
				many++
			}
		}
	}
	if none < 10000 || many < 10000 {
		t.Error("too few calls that do not count, or that do", none, many)
	}
}

// P7.2: ErrArg, and no values, unless the rules and the skating are valid.
func TestValuesErrors(t *testing.T) {
	for name, b := range breaks() {
		if l, e := score.Values(b.r, b.s); len(l) != 0 || e != api.ErrArg {
			t.Errorf("%s: %v, error %d", name, l, e)
		}
	}
}
