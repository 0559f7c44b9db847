package brine

import (
	"iter"

	"icehall/api"
)

// take takes litres, at least 1, out of a slug that has at least as many.
func take(s *api.Slug, litres int) api.Slug {
	// No overflow: 256 events add at most 256 times MaxHeat to the 130 times MaxHeat of valid brine, so this is below 2^61.
	out := api.Slug{Volume: litres, Heat: s.Heat * litres / s.Volume}
	s.Volume -= out.Volume
	s.Heat -= out.Heat
	return out
}

// add adds a slug to another one.
func add(to *api.Slug, s api.Slug) {
	to.Volume += s.Volume
	to.Heat += s.Heat
}

// pipe is a queue of slugs.
type pipe api.Pipe

// litres returns how much is in the pipe.
func (p *pipe) litres() int {
	n := 0
	for _, s := range p.Slugs {
		n += s.Volume
	}
	return n
}

// cut cuts the first litres off the queue: the first slug, or a part of it if it is more than most.
func (p *pipe) cut(most int) api.Slug {
	out := take(&p.Slugs[0], min(most, p.Slugs[0].Volume))
	if n := len(p.Slugs); p.Slugs[0].Volume == 0 {
		// Without capacity behind it the queue moves on when it grows, and leaves what was cut off.
		p.Slugs = p.Slugs[1:n:n]
	}
	return out
}

// drain lets the first litres flow out of a pipe that has as many, slug by slug.
func (p *pipe) drain(litres int) iter.Seq[api.Slug] {
	return func(yield func(api.Slug) bool) {
		for left := litres; left > 0; {
			out := p.cut(left)
			left -= out.Volume
			if !yield(out) {
				return
			}
		}
	}
}

// pass lets slugs flow into the pipe, and gives what flows out for them.
func (p *pipe) pass(in iter.Seq[api.Slug]) iter.Seq[api.Slug] {
	return func(yield func(api.Slug) bool) {
		for s := range in {
			p.Slugs = append(p.Slugs, s)
			for out := range p.drain(p.litres() - p.Room) {
				if !yield(out) {
					return
				}
			}
			p.join()
		}
	}
}

// join makes the last two slugs one if there is one too many.
func (p *pipe) join() {
	if len(p.Slugs) <= api.MaxSlugs {
		return
	}
	last := len(p.Slugs) - 1
	add(&p.Slugs[last-1], p.Slugs[last])
	p.Slugs = p.Slugs[:last]
}

// warm shares heat among the slugs by their litres.
func (p *pipe) warm(heat int) {
	all, left := p.litres(), heat
	last := len(p.Slugs) - 1
	for i := range last {
		share := heat * p.Slugs[i].Volume / all
		p.Slugs[i].Heat += share
		left -= share
	}
	p.Slugs[last].Heat += left
}
