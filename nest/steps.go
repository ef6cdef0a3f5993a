package nest

import (
	"math"

	"halation/api"
)

// sizes are the extents of the inner and the outer loop of a split.
type sizes [2]int

func sizesOf(extent, factor int) sizes {
	return sizes{factor, (extent + factor - 1) / factor}
}

// divide reports whether a split leaves no rest of an extent.
func (s sizes) divide(extent int) bool {
	return s == sizes{s[0], extent / s[0]}
}

// splitting is what a split did.
type splitting struct {
	whole     loop
	inner     loop
	outer     loop
	isInward  bool
	isGuarded bool
}

// last is the greatest number at which a part begins that is shifted inward.
func (s splitting) last() int {
	return s.whole.Extent - s.inner.Extent
}

// expr returns what the variable of the loop becomes that was split.
func (s splitting) expr() api.Expr {
	start := operation(api.EMul, variable(s.outer.Name), integer(s.inner.Extent))
	if s.isInward {
		start = operation(api.EMin, start, integer(s.last()))
	}
	return operation(api.EAdd, start, variable(s.inner.Name))
}

// wrapped returns the number of I32 that an integer wraps to: where parts that are rounded up are split again and
// again, few loops may have offsets that are beyond I32.
func wrapped(n int) int {
	return int(int32(n))
}

func (s splitting) meet(values []int) bool {
	start := wrapped(values[s.outer.place] * s.inner.Extent)
	if s.isInward {
		start = min(start, s.last())
	}
	v := wrapped(start + values[s.inner.place])
	values[s.whole.place] = v
	return !s.isGuarded || v < s.whole.Extent
}

func (s splitting) most(greatest []int) {
	start := composed(greatest[s.outer.place], s.inner.Extent, 0)
	if s.isInward {
		start = min(start, s.last())
	}
	v := composed(start, 1, greatest[s.inner.place])
	if s.isGuarded {
		v = min(v, s.whole.Extent-1)
	}
	greatest[s.whole.place] = v
}

// composed returns outer * factor + inner for numbers from 0 on, or the greatest number that has one above it.
func composed(outer, factor, inner int) int {
	const most = math.MaxInt - 1
	if outer > (most-inner)/factor {
		return most
	}
	return outer*factor + inner
}

// fusion is what a fuse did. What has no points is never met, so the extent of the inner loop is not 0 where it divides.
type fusion struct {
	inner loop
	outer loop
	whole loop
}

func (f fusion) meet(values []int) bool {
	t, extent := values[f.whole.place], f.inner.Extent
	rest := (t%extent + extent) % extent
	values[f.inner.place] = rest
	values[f.outer.place] = (t - rest) / extent
	return true
}

func (f fusion) most(greatest []int) {
	greatest[f.inner.place] = f.inner.Extent - 1
	greatest[f.outer.place] = greatest[f.whole.place] / f.inner.Extent
}
