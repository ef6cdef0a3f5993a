package window

import (
	"halation/affine"
	"halation/api"
	"halation/bound"
	"halation/expr"
	"halation/list"
	"halation/site"
	"halation/tree"
)

// way is how the coordinates of a dimension, above its Min, become places.
type way struct {
	size    func(d Dim) int
	place   func(d Dim, at int) int
	address func(d Dim, at api.Expr) api.Expr
}

// way returns that of a dimension: as it is, or folded.
func (d Dim) way() way {
	ways := [...]way{
		{Dim.all, func(_ Dim, at int) int { return at }, func(_ Dim, at api.Expr) api.Expr { return at }},
		{Dim.factor, func(d Dim, at int) int { return at % d.Fold }, func(d Dim, at api.Expr) api.Expr { return tree.Above(api.EMod, at, integer(d.Fold)) }},
	}
	return ways[min(d.Fold, 1)]
}

func (d Dim) all() int    { return d.Extent }
func (d Dim) factor() int { return d.Fold }

func (d Dim) size() int {
	return d.way().size(d)
}

func (d Dim) isLarge() bool {
	return d.Extent > api.MaxPoints
}

func integer(n int) api.Expr {
	e, _ := expr.Integer(n)
	return e
}

// manyError returns ErrMany if a storage has too many dimensions or loops.
func (x Storage) manyError() api.Errno {
	return list.ErrorIf(len(x.Dims) > api.MaxDims || len(x.Site) > site.MaxLoops, api.ErrMany)
}

// sizeError returns the error of the sizes of a dimension.
func (d Dim) sizeError() api.Errno {
	return list.FirstError(
		list.ErrorIf(d.Extent < 1 || d.Extent > api.MaxPoints, api.ErrRange),
		list.ErrorIf(d.Fold < 0 || d.Fold > api.MaxFactor, api.ErrRange))
}

// elements returns the product of the sizes.
func (x Storage) elements() int {
	out := 1
	for _, d := range x.Dims {
		out *= d.size()
	}
	return out
}

// largeError returns ErrLarge if there are too many elements.
func (x Storage) largeError() api.Errno {
	return list.ErrorIf(x.elements() > api.MaxPoints, api.ErrLarge)
}

// Index returns the element of a point in a storage.
func Index(x Storage, values, point []int) (int, api.Errno) {
	if err := x.manyError(); err != api.OK {
		return 0, err
	}
	extents := list.Map(x.Site, func(l bound.Loop) int { return min(l.Extent, api.MaxCoord+1) })
	err := list.FirstError(site.ValuesError(values, extents), list.ErrorIf(len(point) != len(x.Dims), api.ErrDims))
	if err != api.OK {
		return 0, err
	}
	at := make([]int, len(point))
	for i, d := range x.Dims {
		if at[i], err = d.offset(values, point[i]); err != api.OK {
			return 0, err
		}
	}
	if err := x.largeError(); err != api.OK {
		return 0, err
	}
	index, step := 0, 1
	for i, d := range x.Dims {
		index += d.way().place(d, at[i]) * step
		step *= d.size()
	}
	return index, api.OK
}

// offset returns how far a coordinate is from where a dimension begins for these values.
func (d Dim) offset(values []int, at int) (int, api.Errno) {
	if err := list.FirstError(site.FormError(d.Min, len(values)), d.sizeError()); err != api.OK {
		return 0, err
	}
	low := site.Value(d.Min, values)
	if low < -api.MaxCoord || low > api.MaxCoord {
		return 0, api.ErrLarge
	}
	if at < low || at >= low+d.Extent {
		return 0, api.ErrBounds
	}
	return at - low, api.OK
}

// Address returns the element of a point as an expression.
func Address(x Storage, point []api.Expr) (api.Expr, api.Errno) {
	if err := list.FirstError(x.manyError(), list.ErrorIf(len(point) != len(x.Dims), api.ErrDims)); err != api.OK {
		return nil, err
	}
	for i, d := range x.Dims {
		kind, lanes, err := expr.Kind(point[i])
		if err := list.FirstError(affine.Check(d.Min), d.sizeError(), err, list.ErrorIf(kind != api.I32 || lanes != 1, api.ErrType)); err != api.OK {
			return nil, err
		}
	}
	if err := x.largeError(); err != api.OK {
		return nil, err
	}
	var out api.Expr
	step := 1
	for i, d := range x.Dims {
		low, err := affine.Expr(d.Min)
		if err != api.OK {
			return nil, err
		}
		at := d.way().address(d, tree.Above(api.ESub, point[i], low))
		if i > 0 {
			at = tree.Above(api.EAdd, out, tree.Above(api.EMul, at, integer(step)))
		}
		out = at
		step *= d.size()
	}
	if err := expr.Check(out); err != api.OK {
		return nil, err
	}
	return out, api.OK
}
