package expr_test

import (
	"slices"
	"testing"

	"halation/api"
	"halation/expr"
)

// Promise P2.5.

func TestPartsComeBack(t *testing.T) {
	for seed := range int64(500) {
		e := makeExpr(seed, true)
		for at := range e {
			part, e1 := expr.Sub(e, at)
			back, e2 := expr.Replace(e, at, part)
			if e1 != api.OK || e2 != api.OK || expr.Check(part) != api.OK || !equal(back, e) {
				t.Fatal("a part that is put back", seed, at, part, back)
			}
		}
	}
}

func TestSubstitutionHasValues(t *testing.T) {
	for seed := range int64(1000) {
		e, l := makeExpr(seed, false), bindings(seed)
		want, err := expr.Eval(e, l)
		if err != api.OK {
			t.Fatal("Eval", err)
		}
		for _, b := range l[:3] {
			self, e1 := expr.Subst(e, b.Name, variable(b.Name))
			if e1 != api.OK || !equal(self, e) {
				t.Fatal("a variable by itself", seed, b, self)
			}
			constant, e2 := expr.Const(b.Value)
			s, e3 := expr.Subst(e, b.Name, constant)
			without := slices.DeleteFunc(slices.Clone(l), func(other expr.Binding) bool { return other.Name == b.Name })
			v, e4 := expr.Eval(s, without)
			if e2 != api.OK || e3 != api.OK || e4 != api.OK || !slices.Equal(v, want) {
				t.Fatal("a variable by a constant", seed, b, v, want, e4)
			}
		}
	}
}

func TestFoldKeepsValues(t *testing.T) {
	for seed := range int64(madeExprs) {
		e := makeExpr(seed, false)
		f, err := expr.Fold(e)
		again, err2 := expr.Fold(f)
		if err != api.OK || err2 != api.OK || expr.Check(f) != api.OK || !equal(f, again) {
			t.Fatal("Fold", seed, f, again)
		}
		for other := range int64(3) {
			l := bindings(seed + 10000*other)
			want, e1 := expr.Eval(e, l)
			v, e2 := expr.Eval(f, l)
			if e1 != api.OK || e2 != api.OK || !slices.Equal(v, want) {
				t.Fatal("folding changes a value", seed, v, want)
			}
		}
		for at, n := range f {
			constants := len(n.Kids) > 0 && n.Op <= api.ESelect && n.Op >= api.EAdd
			for _, kid := range n.Kids {
				constants = constants && f[kid].Op == api.EConst
			}
			if constants {
				t.Fatal("a node could be folded", seed, at, f)
			}
		}
	}
}

// TestValuesOfParts evaluates each part on its own, and the whole with constants in place of its parts.
func TestValuesOfParts(t *testing.T) {
	for seed := range int64(300) {
		e, l := makeExpr(seed, false), bindings(seed)
		want, _ := expr.Eval(e, l)
		for at, n := range e {
			part, _ := expr.Sub(e, at)
			v, err := expr.Eval(part, l)
			if err != api.OK || len(v) != n.Lanes || v[0].Kind != n.Kind {
				t.Fatal("the value of a part", seed, at, v, err)
			}
			if n.Lanes > 1 {
				continue
			}
			constant, _ := expr.Const(v[0])
			whole, err := expr.Replace(e, at, constant)
			w, err2 := expr.Eval(whole, l)
			if err != api.OK || err2 != api.OK || !slices.Equal(w, want) {
				t.Fatal("the value of the whole", seed, at, w, want)
			}
		}
	}
}
