package expr

import (
	"halation/api"
	"halation/list"
	"halation/num"
	"halation/tree"
)

// above returns a node above some expressions, which become its kids. It has the lanes of the first of them.
func above(n api.Node, below ...api.Expr) api.Expr {
	n.Lanes = 1
	if len(below) > 0 {
		n.Lanes = tree.Whole(below[0]).Lanes
	}
	return tree.Over(n, below...)
}

// wholeKind returns the kind of a right expression.
func wholeKind(e api.Expr) int {
	return tree.Whole(e).Kind
}

// constant returns a right value as an expression.
func constant(v api.Value) api.Node {
	return api.Node{Op: api.EConst, Kind: v.Kind, Lanes: 1, Bits: v.Bits}
}

// Const returns a constant.
func Const(v api.Value) (api.Expr, api.Errno) {
	if err := num.CheckValue(v); err != api.OK {
		return nil, err
	}
	return api.Expr{constant(v)}, api.OK
}

// Integer returns a constant of the kind of coordinates.
func Integer(n int) (api.Expr, api.Errno) {
	if n < -api.MaxCoord || n > api.MaxCoord {
		return nil, api.ErrRange
	}
	v, err := num.Wrap(api.I32, int64(n))
	if err != api.OK {
		return nil, err
	}
	return Const(v)
}

// Var returns a variable.
func Var(name string) (api.Expr, api.Errno) {
	if err := nameError(name); err != api.OK {
		return nil, err
	}
	return above(api.Node{Op: api.EVar, Kind: api.I32, Name: name}), api.OK
}

// Binary returns an operation with two expressions.
func Binary(op int, a, b api.Expr) (api.Expr, api.Errno) {
	if err := list.FirstError(list.ErrorIf(op < api.EAdd || op > api.ELe, api.ErrUnknown), Check(a), Check(b)); err != api.OK {
		return nil, err
	}
	kind, _ := Result(op, wholeKind(a)) // a kind that is not permitted is found after the number of nodes
	return checked(above(api.Node{Op: op, Kind: kind}, a, b))
}

// Cast returns a cast of an expression.
func Cast(op, kind int, e api.Expr) (api.Expr, api.Errno) {
	if err := list.FirstError(list.ErrorIf(op != api.ECast && op != api.ESat, api.ErrUnknown), num.CheckKind(kind), Check(e)); err != api.OK {
		return nil, err
	}
	return checked(above(api.Node{Op: op, Kind: kind}, e))
}

// Select returns a select.
func Select(condition, a, b api.Expr) (api.Expr, api.Errno) {
	if err := list.FirstError(Check(condition), Check(a), Check(b)); err != api.OK {
		return nil, err
	}
	return checked(above(api.Node{Op: api.ESelect, Kind: wholeKind(a)}, condition, a, b))
}

// Call returns a call, an input or a load.
func Call(op, kind int, name string, args []api.Expr) (api.Expr, api.Errno) {
	err := list.FirstError(list.ErrorIf(!isCall(op), api.ErrUnknown), num.CheckKind(kind), nameError(name), argsError(args))
	if err != api.OK {
		return nil, err
	}
	return checked(above(api.Node{Op: op, Kind: kind, Name: name}, args...))
}

func argsError(args []api.Expr) api.Errno {
	switch {
	case len(args) > api.MaxDims:
		return api.ErrMany
	case len(args) == 0:
		return api.ErrEmpty
	}
	return list.FirstError(list.Map(args, Check)...)
}
