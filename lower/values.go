package lower

import (
	"slices"

	"halation/api"
	"halation/expr"
	"halation/nest"
	"halation/tree"
	"halation/window"
)

// The parts of a stage's expressions, as chapter 5 numbers them: behind the value come the Lefts.
const (
	valuePart = 0
	wherePart = 4
)

// part returns an expression of the stage, if it has it.
func (x *stage) part(part int) (api.Expr, bool) {
	switch {
	case part == valuePart:
		return x.Value, true
	case part > valuePart && part <= len(x.Left):
		return x.Left[part-1], true
	case part == wherePart:
		return x.Where, len(x.Where) > 0
	}
	return nil, false
}

// becoming is what becomes of the nodes of an Op in the program, by what has become of their kids.
type becoming struct {
	of func(x *stage, n api.Node, kids []api.Expr) (api.Expr, api.Errno)
}

// becomings returns what becomes of the nodes of each Op.
func becomings() [api.Ops]becoming {
	table := [api.Ops]becoming{
		api.EVar:   {variable},
		api.EParam: {parameter},
		api.ECall:  {load},
		api.EImage: {load},
	}
	for op := range api.Ops {
		if table[op].of == nil {
			table[op] = becoming{kept}
		}
	}
	return table
}

// checked returns an expression, or its error.
func checked(e api.Expr) (api.Expr, api.Errno) {
	if err := expr.Check(e); err != api.OK {
		return nil, err
	}
	return e, api.OK
}

func kept(_ *stage, n api.Node, kids []api.Expr) (api.Expr, api.Errno) {
	return checked(tree.Over(n, kids...))
}

// variable returns the variable of a coordinate.
func variable(x *stage, n api.Node, _ []api.Expr) (api.Expr, api.Errno) {
	n.Name = x.coordinateName(n.Name)
	return api.Expr{n}, api.OK
}

func parameter(x *stage, n api.Node, _ []api.Expr) (api.Expr, api.Errno) {
	n.Name = x.params[n.Name]
	return api.Expr{n}, api.OK
}

// load returns what is loaded for a call or an input.
func load(x *stage, n api.Node, kids []api.Expr) (api.Expr, api.Errno) {
	from := x.buffers[n.Name]
	index, err := window.Address(from.Storage, kids)
	if err != api.OK {
		return nil, err
	}
	return checked(tree.Over(api.Node{Op: api.ELoad, Kind: n.Kind, Lanes: n.Lanes, Name: from.Buffer}, index))
}

// lowered returns an expression of the stage as it is in the program.
func (x *stage) lowered(e api.Expr) (api.Expr, api.Errno) {
	table := becomings()
	out := make([]api.Expr, len(e))
	for i, n := range e {
		var kids []api.Expr
		for _, kid := range n.Kids {
			kids = append(kids, out[kid])
		}
		var err api.Errno
		if out[i], err = table[n.Op].of(x, n, kids); err != api.OK {
			return nil, err
		}
	}
	return out[len(e)-1], api.OK
}

// coordinateName returns the name in the program of a variable of the stage.
func (x *stage) coordinateName(name string) string {
	return numbered("t", slices.IndexFunc(x.Axes, func(a nest.Axis) bool { return a.Name == name }))
}
