package mean

import (
	"cmp"
	"iter"
	"slices"

	"halation/api"
	"halation/expr"
	"halation/list"
)

// point is a point of a function, an input or a domain; the coordinates of dimensions that this does not have are 0.
type point [api.MaxDims]int

// compare orders points as boxes do: the last coordinate counts most.
func (p point) compare(q point) int {
	for i, c := range slices.Backward(p[:]) {
		if order := cmp.Compare(c, q[i]); order != 0 {
			return order
		}
	}
	return 0
}

// isFar reports whether a number is no coordinate.
func isFar(n int) bool {
	return n < -api.MaxCoord || n > api.MaxCoord
}

// Domain returns the points of axes.
func Domain(l []api.Axis) ([][]int, api.Errno) {
	if len(l) > api.MaxAxes {
		return nil, api.ErrMany
	}
	for i, axis := range l {
		if err := axisError(axis, l[:i]); err != api.OK {
			return nil, err
		}
	}
	return list.Map(slices.Collect(points(l)), func(p point) []int { return slices.Clone(p[:len(l)]) }), api.OK
}

// axisError returns the error of an axis behind others.
func axisError(a api.Axis, before []api.Axis) api.Errno {
	isThere := slices.ContainsFunc(before, func(b api.Axis) bool { return a.Name == b.Name })
	return list.FirstError(
		list.ErrorIf(!expr.IsName(a.Name), api.ErrName),
		list.ErrorIf(isThere, api.ErrTwice),
		list.ErrorIf(isFar(a.Min) || a.Extent < 0 || a.Extent > api.MaxExtent, api.ErrRange))
}

// sizeOf returns the number of points of axes.
func sizeOf(l []api.Axis) int {
	size := 1
	for _, axis := range l {
		size *= axis.Extent
	}
	return size
}

// points visits the points of axes, the first axis fastest.
func points(l []api.Axis) iter.Seq[point] {
	return func(yield func(point) bool) {
		for n := range sizeOf(l) {
			var p point
			for i, axis := range l {
				p[i] = axis.Min + n%axis.Extent
				n /= axis.Extent
			}
			if !yield(p) {
				return
			}
		}
	}
}
