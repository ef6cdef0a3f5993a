package bound

import (
	"iter"
	"slices"

	"halation/affine"
	"halation/api"
	"halation/expr"
	"halation/list"
	"halation/nest"
	"halation/tree"
)

// coordinate is what a variable of a stage is by the variables of its path, or the error of that.
type coordinate struct {
	expr api.Expr
	err  api.Errno
}

// stage is a stage of a function of the placed pipeline, with its nest and its path. A pure definition is an update that
// has only a value.
type stage struct {
	api.Update
	nest.Nest
	path        []Loop
	known       knowledge // what is known of the path's variables, and of the parameters
	coordinates map[string]coordinate
}

// updates returns what is defined in the stages of a function.
func updates(fn api.Func) []api.Update {
	return slices.Concat([]api.Update{{Value: fn.Value}}, fn.Updates)
}

// part is a sort of expressions of a stage.
type part struct {
	of func(u api.Update) []api.Expr
}

// parts returns them in the order of chapter 5.
func parts() [3]part {
	return [3]part{
		{func(u api.Update) []api.Expr { return u.Left }},
		{func(u api.Update) []api.Expr { return []api.Expr{u.Value} }},
		{func(u api.Update) []api.Expr { return []api.Expr{u.Where} }}, // which may have no nodes
	}
}

// reads visits the coordinates at which a function or an input is read in an update, with their dimensions: part by
// part, and node by node.
func reads(u api.Update, op int, name string) iter.Seq2[int, api.Expr] {
	return func(yield func(int, api.Expr) bool) {
		for _, part := range parts() {
			for _, e := range part.of(u) {
				for _, n := range e {
					if n.Op != op || n.Name != name {
						continue
					}
					for dim, kid := range n.Kids {
						if !yield(dim, tree.Part(e, kid)) {
							return
						}
					}
				}
			}
		}
	}
}

// pathOf returns the path of a stage: the loops of the site, then those of its nest, the outermost first.
func pathOf(outer []Loop, f string, number int, n nest.Nest) []Loop {
	out := make([]Loop, len(outer), len(outer)+len(n.Loops))
	copy(out, outer)
	for _, l := range slices.Backward(n.Loops) {
		out = append(out, Loop{f, number, l.Name, l.Extent})
	}
	return out
}

// upTo returns the path of a stage up to one of its own loops, if it has it.
func (s stage) upTo(loop string) ([]Loop, bool) {
	for i, l := range s.Loops {
		if l.Name == loop {
			return s.path[:len(s.path)-i], true
		}
	}
	return nil, false
}

// begins reports whether a path begins with a site.
func (s stage) begins(outer []Loop) bool {
	return len(s.path) >= len(outer) && slices.Equal(s.path[:len(outer)], outer)
}

// coordinatesOf returns what the variables of a stage are, when its nest and its path are there. Mins are those of the
// dimensions of its function.
func (s stage) coordinatesOf(mins []affine.Form) map[string]coordinate {
	byLoop := map[string]int{}
	for i, l := range s.Loops {
		byLoop[l.Name] = len(s.path) - 1 - i
	}
	out := map[string]coordinate{}
	pure := len(s.Axes) - len(s.Domain)
	for i, a := range s.Axes {
		var low affine.Form
		if i < pure {
			low = mins[a.Dim]
		} else {
			low.Const = s.Domain[i-pure].Min
		}
		offset := tree.Replaced(s.Offsets[i], func(n api.Node) (api.Expr, bool) {
			return variable(byLoop[n.Name]), n.Op == api.EVar
		})
		out[a.Name] = sum(low, offset)
	}
	return out
}

// sum returns the sum of a form and an offset.
func sum(low affine.Form, offset api.Expr) coordinate {
	first, err := affine.Expr(low)
	if err != api.OK {
		return coordinate{err: err}
	}
	out, err := expr.Binary(api.EAdd, first, offset)
	return coordinate{out, err}
}

// replaced returns a coordinate at which something is read by the variables of the path.
func (s stage) replaced(e api.Expr) (api.Expr, api.Errno) {
	err := list.FirstError(list.Map(e, func(n api.Node) api.Errno {
		return list.ErrorIf(n.Op == api.EVar, s.coordinates[n.Name].err)
	})...)
	if err != api.OK {
		return nil, err
	}
	return tree.Replaced(e, func(n api.Node) (api.Expr, bool) {
		return s.coordinates[n.Name].expr, n.Op == api.EVar
	}), api.OK
}
