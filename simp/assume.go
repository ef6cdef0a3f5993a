package simp

import (
	"slices"

	"halation/api"
	"halation/expr"
	"halation/list"
	"halation/num"
	"halation/span"
)

// numbers is a span that may be empty.
type numbers span.Span

func (a numbers) atLeast(n int) numbers {
	return numbers{max(a.Low, n), a.High}
}

func (a numbers) atMost(n int) numbers {
	return numbers{a.Low, min(a.High, n)}
}

func (a numbers) above(n int) numbers {
	return a.atLeast(n + 1)
}

func (a numbers) below(n int) numbers {
	return a.atMost(n - 1)
}

func (a numbers) just(n int) numbers {
	return a.atLeast(n).atMost(n)
}

// comparison is the Op of a comparison with a constant, whether this is the second kid, and whether the opposite is told.
type comparison struct {
	op     int
	second bool
	not    bool
}

// narrowed returns what a comparison that is true makes of a span; it is nil for one that tells nothing.
func (c comparison) narrowed() func(numbers, int) numbers {
	return map[comparison]func(numbers, int) numbers{
		{api.ELt, true, false}:  numbers.below,
		{api.ELt, false, false}: numbers.above,
		{api.ELe, true, false}:  numbers.atMost,
		{api.ELe, false, false}: numbers.atLeast,
		{api.EEq, true, false}:  numbers.just,
		{api.EEq, false, false}: numbers.just,
		{api.ELt, true, true}:   numbers.atLeast,
		{api.ELt, false, true}:  numbers.atMost,
		{api.ELe, true, true}:   numbers.above,
		{api.ELe, false, true}:  numbers.below,
	}[c]
}

// assumption is a condition, with what is known when as much of it as has been visited is true.
type assumption struct {
	condition api.Expr
	known     []span.Known
	err       api.Errno
}

// holds goes on with what a node tells, and reports whether it is possible.
func (a *assumption) holds(node int) bool {
	n := a.condition[node]
	switch n.Op {
	case api.EConst:
		return n.Bits != 0
	case api.EAnd:
		return a.holds(n.Kids[0]) && a.holds(n.Kids[1])
	case api.ENot:
		return a.compares(a.condition[n.Kids[0]], true)
	}
	return a.compares(n, false)
}

// compares goes on with what a node tells if it is a comparison of a name with a constant.
func (a *assumption) compares(n api.Node, not bool) bool {
	if len(n.Kids) != 2 {
		return true
	}
	named, constant := a.condition[n.Kids[0]], a.condition[n.Kids[1]]
	second := isConst(constant)
	if !second {
		named, constant = constant, named
	}
	narrowed := comparison{n.Op, second, not}.narrowed()
	switch [2]int{named.Op, constant.Op} {
	case [2]int{api.EVar, api.EConst}, [2]int{api.EParam, api.EConst}:
		if narrowed == nil || !span.IsSmall(named.Kind) {
			return true
		}
		number, _ := num.Int(api.Value{Kind: constant.Kind, Bits: constant.Bits})
		return a.narrow(named, func(s numbers) numbers { return narrowed(s, int(number)) })
	}
	return true
}

// narrow changes what is known of a node with a name, and reports whether anything is left.
func (a *assumption) narrow(n api.Node, by func(numbers) numbers) bool {
	whole, _ := span.Whole(n.Kind)
	at := slices.IndexFunc(a.known, func(k span.Known) bool { return k.Op == n.Op && k.Name == n.Name })
	if at < 0 {
		at = len(a.known)
		a.known = append(a.known, span.Known{Op: n.Op, Name: n.Name, Span: whole})
	}
	if len(a.known) > api.MaxNodes {
		a.err = api.ErrMany
		return false
	}
	s := whole
	if common, ok, _ := span.Meet(a.known[at].Span, whole); ok {
		s = common
	}
	left := by(numbers(s))
	a.known[at].Span = span.Span(left)
	return left.Low <= left.High
}

func conditionError(e api.Expr) api.Errno {
	kind, lanes, err := expr.Kind(e)
	return list.FirstError(err, list.ErrorIf(kind != api.Bool, api.ErrType), list.ErrorIf(lanes != 1, api.ErrVector))
}

// assumed returns what is known if a right condition is true.
func assumed(l []span.Known, condition api.Expr) ([]span.Known, bool, api.Errno) {
	known := make([]span.Known, len(l))
	copy(known, l)
	a := assumption{condition: condition, known: known}
	if !a.holds(len(condition) - 1) {
		return nil, false, a.err
	}
	return a.known, true, api.OK
}

// Assume returns what is known if a condition is true.
func Assume(l []span.Known, condition api.Expr) ([]span.Known, bool, api.Errno) {
	if err := list.FirstError(span.CheckKnown(l), conditionError(condition)); err != api.OK {
		return nil, false, err
	}
	return assumed(l, condition)
}

// Under returns an expression simplified where a condition is true.
func Under(e, condition api.Expr, l []span.Known) (api.Expr, api.Errno) {
	if err := list.FirstError(expr.Check(e), conditionError(condition), span.CheckKnown(l)); err != api.OK {
		return nil, err
	}
	known, ok, err := assumed(l, condition)
	if err := list.FirstError(err, list.ErrorIf(!ok, api.ErrConflict)); err != api.OK {
		return nil, err
	}
	out, _ := simplified(e, known)
	return out, api.OK
}
