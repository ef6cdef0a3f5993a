package image

import (
	"iter"
	"slices"

	"halation/api"
	"halation/list"
)

// point is a point of a box; the coordinates of dimensions that the box does not have are 0.
type point [api.MaxDims]int

// span is a range of a box, one that can be compared with others.
type span api.Range

// CheckBox returns the first error of a box, or OK.
func CheckBox(b api.Box) api.Errno {
	if len(b) < 1 || len(b) > api.MaxDims {
		return api.ErrDims
	}
	if slices.ContainsFunc(b, func(r api.Range) bool { return !span(r).isRight() }) {
		return api.ErrRange
	}
	return list.ErrorIf(sizeOf(b) > api.MaxPoints, api.ErrMany)
}

func (s span) isRight() bool {
	return s.Min >= -api.MaxCoord && s.Min <= api.MaxCoord && s.Extent >= 0 && s.Extent <= api.MaxExtent && s.end() <= api.MaxCoord+1
}

// end returns the first number behind a range.
func (s span) end() int {
	return s.Min + s.Extent
}

func (s span) has(n int) bool {
	return n >= s.Min && n < s.end()
}

// common returns the numbers that two ranges have.
func (s span) common(t span) span {
	first := max(s.Min, t.Min)
	return span{first, max(0, min(s.end(), t.end())-first)}
}

// hull returns the least range that has all numbers of two.
func (s span) hull(t span) span {
	first := min(s.Min, t.Min)
	return span{first, max(s.end(), t.end()) - first}
}

// sizeOf returns the number of points of a box whose ranges are right.
func sizeOf(b api.Box) int {
	size := 1
	for _, r := range b {
		size *= r.Extent
	}
	return size
}

// Size returns the number of points.
func Size(b api.Box) (int, api.Errno) {
	if err := CheckBox(b); err != api.OK {
		return 0, err
	}
	return sizeOf(b), api.OK
}

// points visits the points of a right box in their order.
func points(b api.Box) iter.Seq[point] {
	return func(yield func(point) bool) {
		var p point
		for i, r := range b {
			p[i] = r.Min
		}
		for range sizeOf(b) {
			if !yield(p) {
				return
			}
			p = next(b, p)
		}
	}
}

// next returns the point behind one of a box; behind the last one is the first one again.
func next(b api.Box, p point) point {
	for i, r := range b {
		p[i]++
		if span(r).has(p[i]) {
			break
		}
		p[i] = r.Min
	}
	return p
}

// Points returns all points.
func Points(b api.Box) ([][]int, api.Errno) {
	if err := CheckBox(b); err != api.OK {
		return nil, err
	}
	return list.Map(slices.Collect(points(b)), func(p point) []int { return slices.Clone(p[:len(b)]) }), api.OK
}

// pointOf returns a point of a box with so many dimensions.
func pointOf(p []int, dims int) (point, api.Errno) {
	var out point
	if len(p) != dims {
		return out, api.ErrDims
	}
	copy(out[:], p)
	return out, api.OK
}

// has reports whether a box has a point.
func has(b api.Box, p point) bool {
	for i, r := range b {
		if !span(r).has(p[i]) {
			return false
		}
	}
	return true
}

// Has reports whether a box has a point.
func Has(b api.Box, p []int) (bool, api.Errno) {
	if err := CheckBox(b); err != api.OK {
		return false, err
	}
	at, err := pointOf(p, len(b))
	return err == api.OK && has(b, at), err
}

// inside returns a point that a box must have.
func inside(b api.Box, p []int) (point, api.Errno) {
	at, err := pointOf(p, len(b))
	if err == api.OK && !has(b, at) {
		err = api.ErrBounds
	}
	return at, err
}

// Index returns the number of points before one.
func Index(b api.Box, p []int) (int, api.Errno) {
	if err := CheckBox(b); err != api.OK {
		return 0, err
	}
	at, err := inside(b, p)
	if err != api.OK {
		return 0, err
	}
	return elementOf(b, denseStrides(b), at), api.OK
}

// denseStrides returns the strides of the dense images of a box.
func denseStrides(b api.Box) []int {
	out := make([]int, len(b))
	stride := 1
	for i, r := range b {
		out[i] = stride
		stride *= r.Extent
	}
	return out
}

// elementOf returns the index of a point's element.
func elementOf(b api.Box, strides []int, p point) int {
	index := 0
	for i, r := range b {
		index += (p[i] - r.Min) * strides[i]
	}
	return index
}

// combined returns a box that has for each dimension what two boxes make of it.
func combined(a, b api.Box, of func(s, t span) span) api.Box {
	out := make(api.Box, len(a))
	for i := range len(a) {
		out[i] = api.Range(of(span(a[i]), span(b[i])))
	}
	return out
}

// pairError returns the first error of two boxes that must have the same number of dimensions.
func pairError(a, b api.Box) api.Errno {
	return list.FirstError(CheckBox(a), CheckBox(b), list.ErrorIf(len(a) != len(b), api.ErrDims))
}

// Intersect returns the intersection of two boxes.
func Intersect(a, b api.Box) (api.Box, api.Errno) {
	if err := pairError(a, b); err != api.OK {
		return nil, err
	}
	return combined(a, b, span.common), api.OK
}

// Union returns the least box that has all points of two.
func Union(a, b api.Box) (api.Box, api.Errno) {
	if err := pairError(a, b); err != api.OK {
		return nil, err
	}
	switch {
	case sizeOf(b) == 0:
		return slices.Clone(a), api.OK
	case sizeOf(a) == 0:
		return slices.Clone(b), api.OK
	}
	out := combined(a, b, span.hull)
	if CheckBox(out) != api.OK {
		return nil, api.ErrLarge
	}
	return out, api.OK
}
