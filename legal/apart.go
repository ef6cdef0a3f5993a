package legal

import (
	"slices"

	"halation/affine"
	"halation/api"
	"halation/expr"
	"halation/pipe"
	"halation/tree"
)

// Apart reports whether the iterations of an axis of an update never meet.
func Apart(p api.Pipeline, f string, stage int, axis string) (bool, api.Errno) {
	if _, err := pipe.Check(p); err != api.OK {
		return false, err
	}
	i, err := find(p, f)
	if err != api.OK {
		return false, err
	}
	if stage < 1 || stage > len(p.Funcs[i].Updates) {
		return false, api.ErrRange
	}
	u := updateOf(p, i, stage)
	if !slices.ContainsFunc(u.Domain, func(a api.Axis) bool { return a.Name == axis }) {
		return false, api.ErrUnknown
	}
	return u.isApart(axis), api.OK
}

// update is an update with the name of its function, and which dimensions are pure in it.
type update struct {
	api.Update
	of   string
	pure []bool
}

// updateOf returns the update of a stage. That of a pure definition is empty.
func updateOf(p api.Pipeline, f, stage int) update {
	fn := p.Funcs[f]
	pure, _ := pipe.Pure(p, f, stage)
	all := slices.Concat([]api.Update{{}}, fn.Updates)
	return update{all[stage], fn.Name, pure}
}

// isApart reports whether the iterations of an axis never meet, because of one of the dimensions.
func (u update) isApart(axis string) bool {
	for dim, left := range u.Left {
		if !u.pure[dim] && isMultiple(left, axis) && u.isCalledAt(dim, left) {
			return true
		}
	}
	return false
}

// isMultiple reports whether an expression is a multiple of a variable, and a constant.
func isMultiple(e api.Expr, name string) bool {
	f, err := affine.Of(e)
	if err != api.OK || len(f.Terms) != 1 {
		return false
	}
	variable, _ := expr.Var(name)
	t := f.Terms[0]
	return expr.Same(t.Atom, variable) && t.Coeff >= -api.MaxCoord && t.Coeff <= api.MaxCoord
}

// isCalledAt reports whether an expression is the coordinate of all self-calls in a dimension.
func (u update) isCalledAt(dim int, at api.Expr) bool {
	for _, e := range slices.Concat(u.Left, []api.Expr{u.Value, u.Where}) {
		for _, n := range e {
			if n.Op == api.ECall && n.Name == u.of && !expr.Same(tree.Part(e, n.Kids[dim]), at) {
				return false
			}
		}
	}
	return true
}
