package legal

import (
	"iter"
	"slices"

	"halation/api"
	"halation/expr"
	"halation/list"
	"halation/nest"
	"halation/num"
)

// InOrder reports whether the domain of a stage is gone through in its own order.
func InOrder(p api.Pipeline, s api.Schedule, x nest.Stage) (bool, api.Errno) {
	n, _, err := nest.Loops(p, s, x)
	if err != api.OK {
		return false, err
	}
	return domainOf(n).isInOrder()
}

// point is the offsets of the axes of a domain; those of axes that it does not have are 0.
type point [api.MaxAxes]int

// domain is what a nest has of a domain: its loops, the innermost one first, the extents and the offsets of its axes, and
// the guards that ask for nothing else.
type domain struct {
	loops   []nest.Loop
	extents []int
	offsets []api.Expr
	guards  []api.Expr
}

func domainOf(n nest.Nest) domain {
	var d domain
	isOf := map[string]bool{}
	for _, l := range n.Loops {
		if l.Domain {
			d.loops = append(d.loops, l)
			isOf[l.Name] = true
		}
	}
	for i, a := range n.Axes {
		if a.Dim < 0 {
			d.extents = append(d.extents, a.Extent)
			d.offsets = append(d.offsets, n.Offsets[i])
		}
	}
	for _, g := range n.Guards {
		names, _ := expr.Free(g)
		if !slices.ContainsFunc(names, func(name string) bool { return !isOf[name] }) {
			d.guards = append(d.guards, g)
		}
	}
	return d
}

// count returns how many values the loops have, but at most one more than are gone through.
func (d domain) count() int {
	count := 1
	for _, l := range d.loops {
		count = min(count*l.Extent, api.MaxPoints+1)
	}
	return count
}

// values visits the values of the loops, the innermost one fastest.
func (d domain) values() iter.Seq[[]expr.Binding] {
	return func(yield func([]expr.Binding) bool) {
		for number := range d.count() {
			var values []expr.Binding
			for _, l := range d.loops {
				v, _ := num.Wrap(api.I32, int64(number%l.Extent))
				values = append(values, expr.Binding{Name: l.Name, Value: v})
				number /= l.Extent
			}
			if !yield(values) {
				return
			}
		}
	}
}

// numberOf returns the value of an offset, or of a guard: 0 if it does not hold.
func numberOf(e api.Expr, values []expr.Binding) int {
	v, _ := expr.Eval(e, values)
	n, _ := num.Int(v[0])
	return int(n)
}

// points visits the points of the domain that are met.
func (d domain) points() iter.Seq[point] {
	return func(yield func(point) bool) {
		for values := range d.values() {
			find := func(e api.Expr) int { return numberOf(e, values) }
			if slices.Contains(list.Map(d.guards, find), 0) {
				continue
			}
			var p point
			copy(p[:], list.Map(d.offsets, find))
			if !yield(p) {
				return
			}
		}
	}
}

// isInOrder reports whether the points of the domain are met just once, and in their order.
func (d domain) isInOrder() (bool, api.Errno) {
	if d.count() > api.MaxPoints {
		return false, api.ErrLimit
	}
	met := 0
	for p := range d.points() {
		if wanted, ok := d.point(met); !ok || p != wanted {
			return false, api.OK
		}
		met++
	}
	_, more := d.point(met)
	return !more, api.OK
}

// point returns the point of the domain with a number, and whether there is one.
func (d domain) point(number int) (point, bool) {
	var out point
	for i, n := range d.extents {
		out[i] = number % n
		number /= n
	}
	return out, number == 0
}
