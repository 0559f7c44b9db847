package score_test

import (
	"math/rand"
	"slices"
	"testing"

	"icehall/api"
	"icehall/score"
)

// P7.1: the example of the document, and other skatings.
func TestProgram(t *testing.T) {
	r, s := example()
	for name, c := range map[string]struct {
		r    api.Rules
		s    api.Skating
		want api.Score
	}{
		"the example":                    {r, s, api.Score{Elements: 1606, Parts: 3173, Off: 300, Total: 4479}},
		"nothing skated":                 {r, api.Skating{}, api.Score{}},
		"calls only":                     {r, api.Skating{Calls: s.Calls}, api.Score{Elements: 1606, Off: 100, Total: 1506}},
		"parts only":                     {r, api.Skating{Parts: s.Parts}, api.Score{Parts: 3173, Total: 3173}},
		"time only":                      {r, api.Skating{Over: 7}, api.Score{Off: 200}},
		"as much off as there is":        {hundred(), api.Skating{Calls: calls(1, 1), Over: 1}, api.Score{Elements: 100, Off: 100}},
		"one more off than there is":     {api.Rules{Bases: []int{99}, Most: 1}, api.Skating{Calls: calls(1, 1), Over: 1}, api.Score{Elements: 99, Off: 100}},
		"one less off than there is":     {api.Rules{Bases: []int{101}, Most: 1}, api.Skating{Calls: calls(1, 1), Over: 1}, api.Score{Elements: 101, Off: 100, Total: 1}},
		"no factor":                      {api.Rules{Bases: []int{0}, Most: 1}, api.Skating{Parts: s.Parts}, api.Score{}},
		"a part of half a hundredth":     {api.Rules{Bases: []int{0}, Factor: 1, Most: 1}, api.Skating{Parts: [][]int{{2}}}, api.Score{Parts: 1, Total: 1}},
		"a part of less than half of it": {api.Rules{Bases: []int{0}, Factor: 1, Most: 1}, api.Skating{Parts: [][]int{{1}}}, api.Score{}},
		"each part is rounded":           {api.Rules{Bases: []int{0}, Factor: 1, Most: 1}, api.Skating{Parts: [][]int{{2}, {2}, {2}, {1}, {1}}}, api.Score{Parts: 3, Total: 3}},
		"four marks of a part count":     {api.Rules{Bases: []int{0}, Factor: 4, Most: 1}, api.Skating{Parts: [][]int{{0, 10, 10, 40}}}, api.Score{Parts: 15, Total: 15}},
		"three of five marks of a part":  {api.Rules{Bases: []int{0}, Factor: 4, Most: 1}, api.Skating{Parts: [][]int{{40, 10, 0, 10, 40}}}, api.Score{Parts: 20, Total: 20}},
		"seven of nine marks of a part":  {api.Rules{Bases: []int{0}, Factor: 4, Most: 1}, api.Skating{Parts: [][]int{{0, 0, 1, 2, 3, 4, 5, 6, 40}}}, api.Score{Parts: 3, Total: 3}},
		"all marks of a part the same":   {api.Rules{Bases: []int{0}, Factor: 1000, Most: 1}, api.Skating{Parts: [][]int{{7, 7, 7, 7, 7, 7}}}, api.Score{Parts: 1750, Total: 1750}},
	} {
		if p := mustScore(t, c.r, c.s); p != c.want {
			t.Errorf("%s: %v", name, p)
		}
	}
}

// P7.1: the first two falls cost 100 each, the third and the fourth 200, each one more 300, also if the call does not count.
func TestFalls(t *testing.T) {
	want := []int{0, 100, 200, 400, 600, 900, 1200, 1500, 1800, 2100, 2400, 2700, 3000, 3300, 3600, 3900, 4200}
	for _, most := range []int{1, 2, 16} {
		r := api.Rules{Bases: []int{2000}, Most: most}
		for falls, off := range want {
			s := api.Skating{Calls: calls(api.MaxCalled, 3)}
			for i := range falls {
				s.Calls[(i*5+15)%api.MaxCalled].Fall = true
			}
			elements := 2000 * most
			if p := mustScore(t, r, s); p != (api.Score{Elements: elements, Off: off, Total: max(0, elements-off)}) {
				t.Errorf("%d calls count, %d falls: %v", most, falls, p)
			}
		}
	}
}

// P7.1: each begun five seconds cost 100.
func TestOver(t *testing.T) {
	r, _ := example()
	for over, want := range map[int]int{0: 0, 1: 100, 4: 100, 5: 100, 6: 200, 9: 200, 10: 200, 11: 300, 595: 11900, 596: 12000, 600: 12000} {
		if p := mustScore(t, r, api.Skating{Over: over}); p != (api.Score{Off: want}) {
			t.Errorf("%d seconds: %v", over, p)
		}
	}
	s := api.Skating{Calls: calls(3, 1), Over: 3}
	s.Calls[0].Fall, s.Calls[1].Fall, s.Calls[2].Fall = true, true, true
	if p := mustScore(t, r, s); p != (api.Score{Elements: 1600, Off: 500, Total: 1100}) {
		t.Error("falls and time:", p)
	}
}

// P7.1: as much of all as there can be.
func TestGreatestProgram(t *testing.T) {
	r := api.Rules{Bases: slices.Repeat([]int{api.MaxBase}, api.MaxBases), Factor: api.MaxFactor, Most: api.MaxCalled}
	s := api.Skating{Parts: slices.Repeat([][]int{slices.Repeat([]int{api.MaxQuarters}, api.MaxPanel)}, api.MaxParts), Over: api.MaxOver}
	for i := range api.MaxCalled {
		s.Calls = append(s.Calls, api.Called{Place: api.MaxPlaces - 1 - i, Element: api.MaxBases - 1, Late: true, Fall: true, Marks: slices.Repeat([]int{api.MaxGrade}, api.MaxPanel)})
	}
	if p := mustScore(t, r, s); p != (api.Score{Elements: 16 * 3200, Parts: 50000, Off: 4200 + 12000, Total: 51200 + 50000 - 16200}) {
		t.Error(p)
	}
	for i := range s.Calls {
		s.Calls[i].Marks = slices.Repeat([]int{-api.MaxGrade}, api.MaxPanel)
		s.Calls[i].Under, s.Calls[i].Late = api.MaxUnder, false
	}
	if p := mustScore(t, r, s); p != (api.Score{Elements: 16 * 600, Parts: 50000, Off: 16200, Total: 9600 + 50000 - 16200}) {
		t.Error(p)
	}
}

// P7.1, P7: the score of any skating is the one that the words of the chapter give.
func TestProgramModel(t *testing.T) {
	rnd := rand.New(rand.NewSource(71))
	nothing, odd := 0, 0
	for range 8000 {
		r := anyRules(rnd)
		s := anySkating(rnd, r, 1+rnd.Intn(api.MaxPanel), api.MaxCalled, api.MaxParts)
		p, want := mustScore(t, r, s), scoreBy(r, s)
		if p != want {
			t.Fatalf("Program(%v, %v) = %v, not %v", r, s, p, want)
		}
		if p.Total == 0 && p.Off > p.Elements+p.Parts {
			nothing++
		}
		if p.Total > 0 && p.Elements%10 != 0 && p.Parts%10 != 0 && p.Off > 0 {
			odd++
		}
	}
	if nothing < 1000 || odd < 1000 {
		t.Error("too few totals that are nothing, or of many parts", nothing, odd)
	}
}

// P7.1: ErrArg, and no score, unless the rules and the skating are valid.
func TestProgramErrors(t *testing.T) {
	for name, b := range breaks() {
		if p, e := score.Program(b.r, b.s); p != (api.Score{}) || e != api.ErrArg {
			t.Errorf("%s: %v, error %d", name, p, e)
		}
	}
}
