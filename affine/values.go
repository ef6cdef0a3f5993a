package affine

import (
	"halation/api"
	"halation/expr"
	"halation/list"
	"halation/num"
	"halation/span"
)

// exact is an integer that may be beyond an int: upper times 2^31, and lower, which is from 0 to 2^31 - 1.
type exact struct {
	upper int
	lower int
}

// plus adds what is at most a product of two numbers of I32.
func (x exact) plus(n int) exact {
	n += x.lower
	return exact{x.upper + n>>31, n & (1<<31 - 1)}
}

// number returns the integer, if it is a number of I32.
func (x exact) number() (int, bool) {
	n := wrapped(x.upper<<31 + x.lower)
	return n, exact{}.plus(n) == x
}

// bounded is a term with the span of its atom.
type bounded struct {
	Term
	span.Span
}

// ends returns the least and the greatest value of a term.
func (b bounded) ends() (int, int) {
	if b.Coeff < 0 {
		return b.Coeff * b.High, b.Coeff * b.Low
	}
	return b.Coeff * b.Low, b.Coeff * b.High
}

// knowledge is what is known of the atoms of forms.
type knowledge []span.Known

// bounded returns a term with its span, which is always known: the kind I32 is small.
func (l knowledge) bounded(t Term) bounded {
	fact, _ := span.Of(t.Atom, l)
	return bounded{t, fact.Span}
}

// Range returns the span of a form.
func Range(f Form, l []span.Known) (span.Fact, api.Errno) {
	if err := list.FirstError(Check(f), span.CheckKnown(l)); err != api.OK {
		return span.Fact{}, err
	}
	least := exact{}.plus(f.Const)
	greatest := least
	for _, b := range list.Map(f.Terms, knowledge(l).bounded) {
		low, high := b.ends()
		least, greatest = least.plus(low), greatest.plus(high)
	}
	low, isLow := least.number()
	high, isHigh := greatest.number()
	if !isLow || !isHigh {
		return span.Fact{}, api.OK
	}
	return span.Fact{Is: true, Span: span.Span{Low: low, High: high}}, api.OK
}

// Value returns the value of a form.
func Value(f Form, l []expr.Binding) (int, api.Errno) {
	if err := Check(f); err != api.OK {
		return 0, err
	}
	sum := f.Const
	for t := range f.terms() {
		v, err := expr.Eval(t.Atom, l)
		if err != api.OK {
			return 0, err
		}
		n, _ := num.Int(v[0])
		sum = wrapped(sum + t.Coeff*int(n))
	}
	return sum, api.OK
}
