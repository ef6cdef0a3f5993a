package nest

import (
	"slices"

	"halation/api"
	"halation/expr"
	"halation/list"
)

// loop is a loop with the place of its values. A loop that a directive takes away keeps its place.
type loop struct {
	Loop
	place int
}

// isMarked reports whether it has been said how a loop goes.
func (l loop) isMarked() bool {
	return l.Kind != api.Serial
}

// axis is an axis with its offset.
type axis struct {
	Axis
	offset api.Expr
}

// nesting is a nest that is being made. The values of all loops that there ever were have places; the first ones are
// those of the axes, whose loops the nest begins with.
type nesting struct {
	isUpdate bool
	axes     []axis
	loops    []loop // the innermost one first
	guards   []api.Expr
	places   int
	steps    []step
}

// step is what a directive means for the values of loops: how those before it follow from those behind it.
type step interface {
	// meet finds the values, and reports whether they are met.
	meet(values []int) bool
	// most finds the greatest values by the greatest ones.
	most(greatest []int)
}

// begin returns a nest with a loop for each axis: those of the domain, which come last, are inside.
func begin(axes []Axis, isUpdate bool) *nesting {
	n := &nesting{isUpdate: isUpdate, places: len(axes)}
	var pure []loop
	for i, a := range axes {
		n.axes = append(n.axes, axis{a, variable(a.Name)})
		l := loop{Loop{Name: a.Name, Extent: a.Extent, Domain: a.Dim < 0}, i}
		if l.Domain {
			n.loops = append(n.loops, l)
		} else {
			pure = append(pure, l)
		}
	}
	n.loops = append(n.loops, pure...)
	return n
}

// find returns the loop with a name.
func (n *nesting) find(name string) (loop, api.Errno) {
	byName := map[string]loop{}
	for _, l := range n.loops {
		byName[l.Name] = l
	}
	l, ok := byName[name]
	return l, list.ErrorIf(!ok, api.ErrUnknown)
}

// found returns the loops with some names.
func (n *nesting) found(names ...string) ([]loop, api.Errno) {
	var out []loop
	for _, name := range names {
		l, err := n.find(name)
		if err != api.OK {
			return nil, err
		}
		out = append(out, l)
	}
	return out, api.OK
}

// serial returns the loops with some names, none of which must be marked.
func (n *nesting) serial(names ...string) ([]loop, api.Errno) {
	out, err := n.found(names...)
	return out, list.FirstError(err, list.ErrorIf(slices.ContainsFunc(out, loop.isMarked), api.ErrConflict))
}

// newError returns the error of names that no loop must have.
func (n *nesting) newError(names ...string) api.Errno {
	return list.FirstError(list.Map(names, func(name string) api.Errno {
		_, err := n.find(name)
		return list.ErrorIf(err == api.OK, api.ErrTwice)
	})...)
}

// made returns a new loop that comes from another one.
func (n *nesting) made(from loop, name string, extent int) loop {
	n.places++
	return loop{Loop{Name: name, Extent: extent, Domain: from.Domain}, n.places - 1}
}

// put replaces a variable in all offsets and guards.
func (n *nesting) put(name string, by api.Expr) api.Errno {
	for i, a := range n.axes {
		offset, err := expr.Subst(a.offset, name, by)
		if err != api.OK {
			return err
		}
		n.axes[i].offset = offset
	}
	for i, g := range n.guards {
		guard, err := expr.Subst(g, name, by)
		if err != api.OK {
			return err
		}
		n.guards[i] = guard
	}
	return api.OK
}

func variable(name string) api.Expr {
	e, _ := expr.Var(name)
	return e
}

func integer(n int) api.Expr {
	e, _ := expr.Integer(n)
	return e
}

// operation returns an operation with two expressions that are small and of the kind I32.
func operation(op int, a, b api.Expr) api.Expr {
	e, _ := expr.Binary(op, a, b)
	return e
}
