package ice

import "icehall/api"

// work is what is done to the ice again and again: so much is worn before each of the passes, and planed off in it.
type work struct {
	worn, planed api.Span
	passes       int
}

// ever returns whether a zone may be bad behind a pass, if so much water is frozen in each.
func (w work) ever(r []api.Zone, water int, bad func(sheet) bool) bool {
	for _, z := range r {
		s := sheet(z.Ice)
		for range w.passes {
			s.shrink(w.worn)
			s.shrink(w.planed)
			s.grow(api.Span{Lo: water, Hi: water})
			if bad(s) {
				return true
			}
		}
	}
	return false
}
