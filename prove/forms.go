package prove

import (
	"slices"

	"halation/affine"
	"halation/api"
	"halation/expr"
	"halation/list"
	"halation/span"
	"halation/tree"
)

// Of returns the claim of forms, and the atoms of its variables.
func Of(goal affine.Form, given []affine.Form, l []span.Known) (Claim, []api.Expr, api.Errno) {
	if err := list.FirstError(affine.Check(goal), list.ErrorIf(len(given) > MaxGiven, api.ErrMany)); err != api.OK {
		return Claim{}, nil, err
	}
	if err := list.FirstError(list.FirstError(list.Map(given, affine.Check)...), span.CheckKnown(l)); err != api.OK {
		return Claim{}, nil, err
	}
	a := atoms(atomsOf(goal, given...))
	if len(a) > MaxVars {
		return Claim{}, nil, api.ErrMany
	}
	c := Claim{Given: list.Map(given, a.line), Goal: a.line(goal)}
	for _, atom := range a {
		fact, _ := span.Of(atom, l) // it is known: the kind I32 is small
		if coordError(fact.Span.Low) != api.OK || coordError(fact.Span.High) != api.OK {
			return Claim{}, nil, api.ErrOpen
		}
		c.Spans = append(c.Spans, fact.Span)
	}
	if err := CheckClaim(c); err != api.OK {
		return Claim{}, nil, err
	}
	return c, a, api.OK
}

// atoms are those of the variables of a claim, in their order.
type atoms []api.Expr

// atomsOf returns the atoms of forms, each one once, in ascending order.
func atomsOf(form affine.Form, more ...affine.Form) []api.Expr {
	var out []api.Expr
	for _, f := range append([]affine.Form{form}, more...) {
		out = append(out, list.Map(f.Terms, func(t affine.Term) api.Expr { return tree.Moved(t.Atom, 0) })...)
	}
	slices.SortFunc(out, compareAtoms)
	return slices.CompactFunc(out, expr.Same)
}

func compareAtoms(a, b api.Expr) int {
	order, _ := affine.Compare(a, b)
	return order
}

// line returns the line of a form.
func (a atoms) line(f affine.Form) Line {
	coeffs := list.Map(a, func(atom api.Expr) int {
		coeff, _ := affine.Coeff(f, atom)
		return coeff
	})
	return Line{coeffs, f.Const}
}
