package affine

import (
	"slices"

	"halation/api"
	"halation/expr"
	"halation/list"
	"halation/tree"
)

// collection is terms by the keys of their atoms.
type collection map[string]Term

// add adds the terms of a form, times a factor.
func (c collection) add(f Form, factor int) {
	for t := range f.terms() {
		key := expression(t.Atom).key()
		c[key] = Term{wrapped(c[key].Coeff + t.Coeff*factor), t.Atom}
	}
}

// terms returns those terms whose coefficients are not 0, in their order, with atoms of their own.
func (c collection) terms() []Term {
	var out []Term
	for _, t := range c {
		if t.Coeff != 0 {
			out = append(out, Term{t.Coeff, tree.Moved(t.Atom, 0)})
		}
	}
	slices.SortFunc(out, Term.compare)
	return out
}

// plus returns a form plus another one times a factor, with as many terms as there are.
func (f Form) plus(g Form, factor int) Form {
	c := collection{}
	c.add(f, 1)
	c.add(g, factor)
	return Form{c.terms(), wrapped(f.Const + g.Const*factor)}
}

func (f Form) scaled(factor int) Form {
	return Form{}.plus(f, factor)
}

// find returns the place of an atom among the terms, or -1.
func (f Form) find(atom api.Expr) int {
	found := -1
search:
	for i := range len(f.Terms) {
		switch expression(f.Terms[i].Atom).compare(expression(atom)) {
		case 0:
			found = i
			break search
		case 1: // the atoms are ascending
			break search
		}
	}
	return found
}

// coeff returns the coefficient of an atom, 0 if it is not there.
func (f Form) coeff(atom api.Expr) int {
	if at := f.find(atom); at >= 0 {
		return f.Terms[at].Coeff
	}
	return 0
}

// without returns a form without the term of an atom.
func (f Form) without(atom api.Expr) Form {
	rest := make([]Term, len(f.Terms))
	copy(rest, f.Terms)
	if at := f.find(atom); at >= 0 {
		rest = slices.Delete(rest, at, at+1)
	}
	return Form{list.Map(rest, func(t Term) Term { return Term{t.Coeff, tree.Moved(t.Atom, 0)} }), f.Const}
}

// Sum returns a form plus another one by a factor.
func Sum(a, b Form, factor int) (Form, api.Errno) {
	if err := list.FirstError(Check(a), Check(b), rangeError(factor)); err != api.OK {
		return Form{}, err
	}
	return checked(a.plus(b, factor), api.OK)
}

// Scaled returns a form times a factor.
func Scaled(f Form, factor int) (Form, api.Errno) {
	if err := list.FirstError(Check(f), rangeError(factor)); err != api.OK {
		return Form{}, err
	}
	return f.scaled(factor), api.OK
}

// Coeff returns the coefficient of an atom.
func Coeff(f Form, atom api.Expr) (int, api.Errno) {
	if err := list.FirstError(Check(f), atomError(atom)); err != api.OK {
		return 0, err
	}
	return f.coeff(atom), api.OK
}

// Without returns a form without the term of an atom.
func Without(f Form, atom api.Expr) (Form, api.Errno) {
	if err := list.FirstError(Check(f), atomError(atom)); err != api.OK {
		return Form{}, err
	}
	return f.without(atom), api.OK
}

// Subst returns a form with another one in the place of a variable.
func Subst(f Form, name string, by Form) (Form, api.Errno) {
	x, err := expr.Var(name)
	if err := list.FirstError(Check(f), err, Check(by)); err != api.OK {
		return Form{}, err
	}
	return checked(f.without(x).plus(by, f.coeff(x)), api.OK)
}

// Solve returns the form that a variable equals, if a form is to be 0.
func Solve(f Form, name string) (Form, bool, api.Errno) {
	x, err := expr.Var(name)
	if err := list.FirstError(Check(f), err); err != api.OK {
		return Form{}, false, err
	}
	rest, coeff := f.without(x), f.coeff(x)
	if coeff != 1 && coeff != -1 || rest.mentions(name) {
		return Form{}, false, api.OK
	}
	return rest.scaled(-coeff), true, api.OK
}

// mentions reports whether an atom has a variable in it.
func (f Form) mentions(name string) bool {
	return slices.ContainsFunc(f.Terms, func(t Term) bool {
		names, _ := expr.Free(t.Atom)
		return slices.Contains(names, name)
	})
}
