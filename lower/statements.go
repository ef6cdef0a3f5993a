package lower

import (
	"slices"

	"halation/affine"
	"halation/api"
	"halation/bound"
	"halation/expr"
	"halation/list"
	"halation/nest"
	"halation/site"
	"halation/stmt"
	"halation/tree"
	"halation/window"
)

// named returns a variable.
func named(name string) api.Expr {
	e, _ := expr.Var(name)
	return e
}

func integer(n int) api.Expr {
	e, _ := expr.Integer(n)
	return e
}

// around puts a statement around others, where there is one.
type around func(inner []api.Stmt) ([]api.Stmt, api.Errno)

// point returns the statements of one point, the innermost first.
func (x *stage) point() ([]api.Stmt, api.Errno) {
	var out []api.Stmt
	for _, put := range [...]around{x.store, x.fresh, x.lets, x.guarded} {
		var err api.Errno
		if out, err = put(out); err != api.OK {
			return nil, err
		}
	}
	return out, api.OK
}

// store returns the store of a point; there is nothing inside of it.
func (x *stage) store([]api.Stmt) ([]api.Stmt, api.Errno) {
	at, err := x.place()
	if err != api.OK {
		return nil, err
	}
	index, err := window.Address(x.of.held.Storage, at)
	if err != api.OK {
		return nil, err
	}
	value, err := x.lowered(x.Value)
	if err != api.OK {
		return nil, err
	}
	exprs := []api.Expr{index, value}
	if len(x.Where) > 0 {
		where, err := x.lowered(x.Where)
		if err != api.OK {
			return nil, err
		}
		exprs = append(exprs, where)
	}
	return []api.Stmt{{Op: api.SStore, Name: x.of.held.Buffer, Exprs: exprs}}, api.OK
}

// place returns the coordinates at which a point is stored.
func (x *stage) place() ([]api.Expr, api.Errno) {
	if x.number == 0 {
		return list.Map(x.of.Args, func(arg string) api.Expr { return named(x.coordinateName(arg)) }), api.OK
	}
	var out []api.Expr
	for _, left := range x.Left {
		e, err := x.lowered(left)
		if err != api.OK {
			return nil, err
		}
		out = append(out, e)
	}
	return out, api.OK
}

// fresh leaves out what an iteration before has computed, if the function slides.
func (x *stage) fresh(inner []api.Stmt) ([]api.Stmt, api.Errno) {
	slide, slides, _ := window.Sliding(x.p, x.s, x.b, x.of.Name)
	if x.number > 0 || !slides {
		return inner, api.OK
	}
	d := x.of.region.Dims[slide.Dim]
	low, err := affine.Expr(d.Min)
	if err != api.OK {
		return nil, err
	}
	first := both(named(site.Variable(slide.Loop)), api.EEq, integer(0))
	from := both(low, api.EAdd, integer(d.Extent-slide.Step))
	condition := both(first, api.EOr, both(from, api.ELe, named(numbered("t", slide.Dim))))
	return conditional(condition, inner)
}

// both returns an operation with two expressions, which may have too many nodes.
func both(a api.Expr, op int, b api.Expr) api.Expr {
	kind, _ := expr.Result(op, tree.Whole(a).Kind)
	return tree.Over(api.Node{Op: op, Kind: kind, Lanes: 1}, a, b)
}

// conditional returns statements under a condition, or its error.
func conditional(condition api.Expr, inner []api.Stmt) ([]api.Stmt, api.Errno) {
	if err := expr.Check(condition); err != api.OK {
		return nil, err
	}
	return stmt.Over(api.Stmt{Op: api.SIf, Exprs: []api.Expr{condition}}, inner), api.OK
}

// lets says what the coordinates are, the first one outside.
func (x *stage) lets(inner []api.Stmt) ([]api.Stmt, api.Errno) {
	coordinates, err := bound.Coordinates(x.p, x.s, x.b, x.of.Name, x.number)
	if err != api.OK {
		return nil, err
	}
	for i, e := range slices.Backward(coordinates) {
		inner = stmt.Over(api.Stmt{Op: api.SLet, Name: numbered("t", i), Exprs: []api.Expr{e}}, inner)
	}
	return inner, api.OK
}

// guarded asks the guards of the nest, if there are some.
func (x *stage) guarded(inner []api.Stmt) ([]api.Stmt, api.Errno) {
	if len(x.Guards) == 0 {
		return inner, api.OK
	}
	guards := list.Map(x.Guards, x.alongPath)
	condition := guards[0]
	for _, g := range guards[1:] {
		condition = both(condition, api.EAnd, g)
	}
	return conditional(condition, inner)
}

// alongPath returns an expression of the nest's variables by those of the path.
func (x *stage) alongPath(e api.Expr) api.Expr {
	return tree.Replaced(e, func(n api.Node) (api.Expr, bool) {
		if n.Op != api.EVar {
			return nil, false
		}
		at := slices.IndexFunc(x.Loops, func(l nest.Loop) bool { return l.Name == n.Name })
		return named(site.Variable(len(x.path) - 1 - at)), true
	})
}
