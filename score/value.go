package score

import (
	"cmp"
	"slices"

	"icehall/api"
)

// entry is a call, and where it stands among the calls as they were entered.
type entry struct {
	call api.Called
	at   int
}

// compare returns which of two calls was skated first: a number below 0 if it is c, above 0 if it is d.
func (c entry) compare(d entry) int { return cmp.Compare(c.call.Place, d.call.Place) }

// program returns the score of a valid skating.
func program(r api.Rules, s api.Skating) api.Score {
	elements := total(values(r, s))
	parts := sum(s.Parts, func(marks []int) int {
		l := counting(marks)
		return rounded(total(l)*r.Factor, 4*len(l))
	})
	lost := off(s)
	return api.Score{Elements: elements, Parts: parts, Off: lost, Total: max(elements+parts-lost, 0)}
}

// values returns the value of each call of a valid skating, in the order in which they were entered.
func values(r api.Rules, s api.Skating) []int {
	skated := make([]entry, len(s.Calls))
	for i, c := range s.Calls {
		skated[i] = entry{c, i}
	}
	slices.SortFunc(skated, entry.compare)
	l, times := make([]int, len(skated)), make([]int, len(r.Bases))
	for _, c := range skated {
		element := c.call.Element
		if times[element] < r.Most {
			l[c.at] = value(r.Bases[element], c.call)
		}
		times[element]++
	}
	return l
}

// value returns the value of a call that counts.
func value(base int, c api.Called) int {
	worth, tenths := base*(10-2*c.Under), 10
	if c.Late {
		tenths = 11
	}
	marks := counting(c.Marks)
	return rounded(worth*tenths, 100) + rounded(total(marks)*worth, 100*len(marks))
}

// counting returns the marks that count, from the least to the greatest.
func counting(marks []int) []int {
	l := slices.Clone(marks)
	slices.Sort(l)
	if len(l) >= 5 {
		l = l[1 : len(l)-1]
	}
	return l
}

// off returns what falls and time take off.
func off(s api.Skating) int {
	falls := count(s.Calls, func(c api.Called) bool { return c.Fall })
	begun := (s.Over + 4) / 5
	// Each fall costs 100; the third one and those behind it cost 100 more, and so once again from the fifth one on.
	return 100 * (falls + max(falls-2, 0) + max(falls-4, 0) + begun)
}

// rounded divides by a number above 0 and takes the nearest whole number, of two the one that is farther from 0.
func rounded(n, by int) int {
	if n < 0 {
		return -rounded(-n, by)
	}
	return (2*n + by) / (2 * by)
}

// sum returns the sum of what each element is worth.
func sum[T any](l []T, worth func(T) int) int {
	n := 0
	for _, x := range l {
		n += worth(x)
	}
	return n
}

// total returns the sum of numbers.
func total(l []int) int {
	return sum(l, func(n int) int { return n })
}

// count returns how many elements there are of a kind.
func count[T any](l []T, is func(T) bool) int {
	n := 0
	for _, x := range l {
		if is(x) {
			n++
		}
	}
	return n
}
