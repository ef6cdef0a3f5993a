package mean

import (
	"slices"

	"halation/api"
	"halation/list"
)

// slice is what an update of a function has stored for some pure coordinates.
type slice struct {
	*computation
	function
	stage  int
	stored map[point]api.Value
}

// find returns the value that the function has at a point after the stage, as far as the slice has been computed.
func (s *slice) find(p point) (api.Value, api.Errno) {
	if v, ok := s.stored[p]; ok {
		return v, api.OK
	}
	return s.after(s.function, s.stage-1, p)
}

// sliceOf returns the slice of a function's update to which a point belongs.
func (c *computation) sliceOf(fn function, stage int, p point) (*slice, api.Errno) {
	for dim := range len(fn.Args) {
		if !fn.isPure(stage, dim) {
			p[dim] = 0
		}
	}
	key := sliced{fn.place, stage, p}
	if s, ok := c.slices[key]; ok {
		return s, api.OK
	}
	s := &slice{c, fn, stage, map[point]api.Value{}}
	if err := s.compute(p); err != api.OK {
		return nil, err
	}
	c.slices[key] = s
	return s, api.OK
}

// compute goes through the domain of the update for the pure coordinates of a point.
func (s *slice) compute(p point) api.Errno {
	u := s.Updates[s.stage-1]
	if err := s.add(1 + sizeOf(u.Domain)); err != api.OK {
		return err
	}
	axes := list.Map(u.Domain, func(a api.Axis) string { return a.Name })
	dims := len(s.Args)
	inner := scope{s.Name, slices.Concat(s.Args, axes), slices.Concat(p[:dims], make([]int, len(axes))), s.find}
	for r := range points(u.Domain) {
		copy(inner.numbers[dims:], r[:])
		if err := s.store(inner, u, p); err != api.OK {
			return err
		}
	}
	return api.OK
}

// store does the update once; the point has the pure coordinates.
func (s *slice) store(inner scope, u api.Update, p point) api.Errno {
	if len(u.Where) > 0 {
		holds, err := s.value(inner, u.Where)
		if err != api.OK || holds.Bits == 0 {
			return err
		}
	}
	for dim, e := range u.Left {
		if s.isPure(s.stage, dim) {
			continue
		}
		v, err := s.value(inner, e)
		if err != api.OK {
			return err
		}
		if p[dim], err = coordinate(v); err != api.OK {
			return err
		}
	}
	v, err := s.value(inner, u.Value)
	if err == api.OK {
		s.stored[p] = v
	}
	return err
}
