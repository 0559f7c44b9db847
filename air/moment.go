package air

import (
	"iter"
	"slices"

	"icehall/api"
)

// moment is what a step does to the water in the air: how many thousandths of it go out, how much comes, how much the dryer can take, and how much can stay.
type moment struct {
	change int
	comes  api.Span
	dryer  int
	holds  int
}

// inspect returns the moments of steps, or ErrArg unless the air, the water and the steps are valid.
func inspect(a api.Air, w api.Span, l []api.Step) (all []moment, e api.Errno) {
	defer func() {
		if recover() != nil {
			all, e = nil, api.ErrArg
		}
	}()
	if !validAir(a) || !spanWithin(w, api.MaxWet) || len(l) > api.MaxSteps {
		return nil, api.ErrArg
	}
	return slices.Collect(moments(a, l)), api.OK
}

// moments gives the moments of steps in valid air. It panics at the first step that is not valid.
func moments(a api.Air, l []api.Step) iter.Seq[moment] {
	return func(yield func(moment) bool) {
		for _, s := range l {
			if !validStep(a, s) {
				panic(api.ErrArg)
			}
			if !yield(moment{change: s.Change, comes: comes(a, s), dryer: s.Dryer, holds: holds(a, s.Cold)}) {
				return
			}
		}
	}
}

// comes returns how much water comes in a step.
func comes(a api.Air, s api.Step) api.Span {
	fresh := api.Span{Lo: part(a.Room*s.Outer.Lo, s.Change), Hi: part(a.Room*s.Outer.Hi, s.Change)}
	breath := api.Span{Lo: s.People * a.Breath.Lo, Hi: s.People * a.Breath.Hi}
	return sum(fresh, breath, s.Steam)
}

// part returns so many thousandths of water, rounded down.
func part(water, thousandths int) int { return water * thousandths / api.Whole }

// sum returns all spans together.
func sum(l ...api.Span) api.Span {
	var all api.Span
	for _, s := range l {
		all.Lo += s.Lo
		all.Hi += s.Hi
	}
	return all
}

// withDryer returns the same moments, all with this dryer.
func withDryer(l []moment, dryer int) []moment {
	l = slices.Clone(l)
	for i := range l {
		l[i].dryer = dryer
	}
	return l
}

// holds returns how much water valid air holds at a temperature on its curve.
func holds(a api.Air, temp int) int {
	at := around(a.Temps, temp)
	from, to := a.Temps[at[0]], a.Temps[at[1]]
	least, most := a.Holds[at[0]], a.Holds[at[1]]
	if from == to {
		return least * a.Room
	}
	return (least + (most-least)*(temp-from)/(to-from)) * a.Room
}

// around returns where the temperatures next to one on the curve are, twice the same place if it is one of them.
func around(temps []int, temp int) [2]int {
	i, found := slices.BinarySearch(temps, temp)
	if found {
		return [2]int{i, i}
	}
	return [2]int{i - 1, i}
}
