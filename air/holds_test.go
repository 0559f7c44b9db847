package air_test

import (
	"math"
	"math/rand"
	"testing"

	"icehall/air"
	"icehall/api"
)

// P5.1: the examples of the document, and other curves.
func TestHolds(t *testing.T) {
	small := api.Air{Room: 7, Temps: []int{-3, 0, 7, 8}, Holds: []int{1, 3, 8, 8}}
	for name, c := range map[string]struct {
		a    api.Air
		temp int
		want int
	}{
		"the first":                  {example(), -50, 30000},
		"the example":                {example(), -25, 40000},
		"behind the first":           {example(), -49, 30400},
		"one more":                   {example(), -24, 40400},
		"ahead of the second":        {example(), -1, 49600},
		"the second":                 {example(), 0, 50000},
		"behind the second":          {example(), 1, 50450},
		"the example, warm":          {example(), 50, 72500},
		"the last":                   {example(), 100, 95000},
		"cut, below 0":               {small, -2, 7},
		"cut, below 0, one more":     {small, -1, 14},
		"cut before it is for all":   {small, 1, 21},
		"cut, the next one":          {small, 2, 28},
		"cut, ahead of its own":      {small, 6, 49},
		"it does not rise":           {small, 8, 56},
		"a single one":               {api.Air{Room: 3, Temps: []int{-7}, Holds: []int{9}}, -7, 27},
		"the least":                  {api.Air{Room: 1, Temps: []int{-api.MaxTenth}, Holds: []int{1}}, -api.MaxTenth, 1},
		"the greatest":               {api.Air{Room: api.MaxRoom, Temps: []int{api.MaxTenth}, Holds: []int{api.MaxHold}}, api.MaxTenth, api.MaxRoom * api.MaxHold},
		"far apart":                  {api.Air{Room: api.MaxRoom, Temps: []int{-api.MaxTenth, api.MaxTenth}, Holds: []int{1, api.MaxHold}}, api.MaxTenth - 1, api.MaxRoom * 99900},
		"breath is of no matter":     {api.Air{Room: 1, Temps: []int{0, 2}, Holds: []int{4, 6}, Breath: span(0, api.MaxBreath)}, 1, 5},
		"the same at all of them":    {api.Air{Room: 2, Temps: []int{0, 10}, Holds: []int{4, 4}}, 5, 8},
		"the greatest that there is": {greatest(), 0, api.MaxRoom * api.MaxHold},
	} {
		if n, e := air.Holds(c.a, c.temp); n != c.want || e != api.OK {
			t.Errorf("%s: %d, error %d; want %d", name, n, e, c.want)
		}
	}
}

// P5.1: as many temperatures as there can be, each of them and between them.
func TestHoldsLongCurve(t *testing.T) {
	temps, holds := curve(api.MaxCurve)
	a := api.Air{Room: 11, Temps: temps, Holds: holds}
	before := 0
	for temp := temps[0]; temp <= temps[len(temps)-1]; temp++ {
		n := mustHold(t, a, temp)
		if want := holding(a, temp); n != want {
			t.Errorf("at %d: %d; want %d", temp, n, want)
		}
		if n < before {
			t.Error("warmer air holds less at", temp)
		}
		before = n
	}
}

// P5.1: small curves of any kind, at all their temperatures.
func TestHoldsModel(t *testing.T) {
	rnd := rand.New(rand.NewSource(51))
	for range 3000 {
		a := anyAir(rnd)
		for temp := a.Temps[0]; temp <= a.Temps[len(a.Temps)-1]; temp++ {
			if n, want := mustHold(t, a, temp), holding(a, temp); n != want {
				t.Fatalf("Holds(%v, %d) = %d; want %d", a, temp, n, want)
			}
		}
	}
}

// P5.1: the errors, in their order.
func TestHoldsErrors(t *testing.T) {
	single := api.Air{Room: 3, Temps: []int{-7}, Holds: []int{9}}
	for _, c := range []struct {
		a    api.Air
		temp int
	}{
		{example(), -51}, {example(), 101}, {example(), math.MinInt}, {example(), math.MaxInt},
		{single, -8}, {single, -6},
	} {
		if n, e := air.Holds(c.a, c.temp); n != 0 || e != api.ErrRange {
			t.Errorf("Holds(%v, %d) = %d, error %d", c.a, c.temp, n, e)
		}
	}
	for name, a := range badAirs() {
		for _, temp := range []int{-50, 0, 101, math.MaxInt} {
			if n, e := air.Holds(a, temp); n != 0 || e != api.ErrArg {
				t.Errorf("%s, at %d: %d, error %d", name, temp, n, e)
			}
		}
	}
}
