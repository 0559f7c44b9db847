package panel

import "icehall/api"

// ratio is a fraction in lowest terms, with a Den above 0.
type ratio api.Ratio

// whole returns a whole number.
func whole(n int) ratio { return ratio{n, 1} }

// lowest returns num / den, with a den above 0, in lowest terms.
func lowest(num, den int) ratio {
	common, rest := den, max(num, -num)
	for rest > 0 {
		common, rest = rest, common%rest
	}
	return ratio{num / common, den / common}
}

// plus returns the sum of two fractions.
func (r ratio) plus(s ratio) ratio { return lowest(r.Num*s.Den+s.Num*r.Den, r.Den*s.Den) }

// minus returns the difference of two fractions.
func (r ratio) minus(s ratio) ratio { return r.plus(ratio{-s.Num, s.Den}) }

// over returns a fraction divided by a number above 0.
func (r ratio) over(n int) ratio { return lowest(r.Num, r.Den*n) }

// beyond returns whether a fraction is more than limit, or less than -limit.
func (r ratio) beyond(limit int) bool { return max(r.Num, -r.Num) > limit*r.Den }

// joined returns what a list of fractions, with one at least, is joined together.
func joined(l []ratio, join func(r, s ratio) ratio) ratio {
	all := l[0]
	for _, r := range l[1:] {
		all = join(all, r)
	}
	return all
}

// mean returns the mean of a list of fractions, with one at least.
func mean(l []ratio) ratio { return joined(l, ratio.plus).over(len(l)) }
