package rule

import (
	"slices"

	"halation/api"
	"halation/expr"
	"halation/list"
	"halation/num"
)

// measureOf returns the measure of a right expression.
func measureOf(e api.Expr) [4]int {
	var m [4]int
	for n := range nodes(e) {
		m[0]++
		switch n.Op {
		case api.ESub:
			m[1]++
		case api.EVar, api.EParam, api.ECall, api.EImage, api.ELoad:
			m[2]++
		case api.EAdd, api.EMul, api.EMin, api.EMax, api.EAnd, api.EOr, api.EXor, api.EEq, api.ENe:
			if isConst(e[n.Kids[0]]) && !isConst(e[n.Kids[1]]) {
				m[3]++
			}
		}
	}
	return m
}

// Measure returns the measure of an expression.
func Measure(e api.Expr) ([4]int, api.Errno) {
	if err := expr.Check(e); err != api.OK {
		return [4]int{}, err
	}
	return measureOf(e), api.OK
}

// Less reports whether a measure is less than another one.
func Less(a, b [4]int) bool {
	return a != b && slices.Compare(a[:], b[:]) < 0
}

// Holds reports whether a rule holds for values of its wildcards.
func Holds(r Rule, kind int, l []expr.Binding) (bool, api.Errno) {
	if err := list.FirstError(Check(r), list.ErrorIf(!slices.Contains(r.Kinds, kind), api.ErrKind)); err != api.OK {
		return false, err
	}
	i := r.instance(kind)
	if err := bindingsError(l, kindsOf(i.Left)); err != api.OK {
		return false, err
	}
	if len(i.Where) > 0 && valueOf(i.Where, l) == (api.Value{Kind: api.Bool}) {
		return true, api.OK
	}
	return valueOf(i.Left, l) == valueOf(i.Right, l), api.OK
}

// bindingsError returns the error of values for wildcards with these kinds.
func bindingsError(l []expr.Binding, kinds map[string]int) api.Errno {
	if len(l) > maxBounds {
		return api.ErrMany
	}
	bound := map[string]bool{}
	for _, b := range l {
		kind, used := kinds[b.Name]
		err := list.FirstError(
			list.ErrorIf(!used, api.ErrName),
			list.ErrorIf(bound[b.Name], api.ErrTwice),
			num.CheckValue(b.Value),
			list.ErrorIf(b.Value.Kind != kind, api.ErrType))
		if err != api.OK {
			return err
		}
		bound[b.Name] = true
	}
	return list.ErrorIf(len(bound) != len(kinds), api.ErrUnknown)
}

// valueOf returns the value of a pattern, all of whose wildcards are bound.
func valueOf(e api.Expr, l []expr.Binding) api.Value {
	values, _ := expr.Eval(e, l)
	return values[0]
}
