package affine_test

import (
	"math"
	"math/rand"
	"slices"
	"testing"

	"halation/affine"
	"halation/api"
	"halation/expr"
	"halation/span"
)

// anyInt returns a number that is often not right.
func anyInt(r *rand.Rand) int {
	return []int{-1, 0, 1, 2, 3, r.Intn(300), api.Ops, math.MaxInt, math.MinInt, 1<<31 - 1, -1 << 31, 1 << 31, -r.Intn(9)}[r.Intn(13)]
}

// spoilt returns an expression with some fields changed.
func spoilt(r *rand.Rand, e api.Expr) api.Expr {
	out := slices.Clone(e)
	for range r.Intn(3) {
		if len(out) == 0 {
			return out
		}
		n := &out[r.Intn(len(out))]
		switch r.Intn(7) {
		case 0:
			n.Op = anyInt(r)
		case 1:
			n.Kind = anyInt(r)
		case 2:
			n.Lanes = anyInt(r)
		case 3:
			n.Name = []string{"", "9", "x", "a b"}[r.Intn(4)]
		case 4:
			n.Bits = uint64(anyInt(r))
		case 5:
			n.Kids = append(slices.Clone(n.Kids), anyInt(r))
		case 6:
			out = out[:r.Intn(len(out)+1)]
		}
	}
	return out
}

func spoiltForm(t *testing.T, r *rand.Rand) affine.Form {
	t.Helper()
	f := makeForm(t, r)
	for i := range f.Terms {
		switch r.Intn(6) {
		case 0:
			f.Terms[i].Coeff = anyInt(r)
		case 1:
			f.Terms[i].Atom = spoilt(r, f.Terms[i].Atom)
		case 2:
			f.Terms[i] = f.Terms[r.Intn(len(f.Terms))]
		}
	}
	if r.Intn(8) == 0 {
		f.Const = anyInt(r)
	}
	return f
}

// oracleCheck is Check in the document's words.
func oracleCheck(f affine.Form) api.Errno {
	is32 := func(n int) bool { return n >= math.MinInt32 && n <= math.MaxInt32 }
	if len(f.Terms) > 32 {
		return api.ErrMany
	}
	if !is32(f.Const) {
		return api.ErrRange
	}
	for i, term := range f.Terms {
		if !is32(term.Coeff) {
			return api.ErrRange
		}
		if term.Coeff == 0 {
			return api.ErrForm
		}
		if err := oracleAtom(term.Atom); err != api.OK {
			return err
		}
		if i > 0 && oracleCompare(f.Terms[i-1].Atom, term.Atom) >= 0 {
			return api.ErrOrder
		}
	}
	return api.OK
}

func oracleAtom(e api.Expr) api.Errno {
	if err := expr.Check(e); err != api.OK {
		return err
	}
	n := e[len(e)-1]
	switch {
	case n.Kind != api.I32:
		return api.ErrType
	case n.Lanes != 1:
		return api.ErrVector
	case n.Op == api.EConst || n.Op == api.EAdd || n.Op == api.ESub:
		return api.ErrForm
	case n.Op == api.EMul && (e[n.Kids[0]].Op == api.EConst || e[n.Kids[1]].Op == api.EConst):
		return api.ErrForm
	}
	return api.OK
}

// first returns the first error.
func first(l ...api.Errno) api.Errno {
	for _, err := range l {
		if err != api.OK {
			return err
		}
	}
	return api.OK
}

// TestAnyArguments asks for nothing but the errors of arguments of any form.
func TestAnyArguments(t *testing.T) {
	r := rand.New(rand.NewSource(31))
	seen := map[api.Errno]int{}
	for i := range 3000 {
		f, g := spoiltForm(t, r), spoiltForm(t, r)
		e := spoilt(r, makeExpr(t, r))
		n := anyInt(r)
		name := []string{"x", "y", "", "9"}[r.Intn(4)]
		badName, badFactor := api.OK, api.OK
		if name == "" || name == "9" {
			badName = api.ErrName
		}
		if n != int(int32(n)) {
			badFactor = api.ErrRange
		}
		errF, errG, errAtom := oracleCheck(f), oracleCheck(g), oracleAtom(e)
		seen[errF]++
		_, sum := affine.Sum(f, g, n)
		_, scaled := affine.Scaled(f, n)
		_, coeff := affine.Coeff(f, e)
		_, without := affine.Without(f, e)
		_, subst := affine.Subst(f, name, g)
		_, _, solve := affine.Solve(f, name)
		_, ranged := affine.Range(f, []span.Known{known(n, "x", 0, 1)})
		_, value := affine.Value(f, makeBindings(r))
		_, whole := affine.Expr(f)
		for j, c := range []struct{ got, want api.Errno }{
			{affine.Check(f), errF},
			{sum, first(errF, errG, badFactor)},
			{scaled, first(errF, badFactor)},
			{coeff, first(errF, errAtom)},
			{without, first(errF, errAtom)},
			{subst, first(errF, badName, errG)},
			{solve, first(errF, badName)},
			{ranged, first(errF, span.CheckKnown([]span.Known{known(n, "x", 0, 1)}))},
			{value, errF},
			{whole, errF},
		} {
			if c.got != c.want && !(c.want == api.OK && c.got == api.ErrMany) {
				t.Fatal("errors", i, j, text(f), text(g), e, n, name, c.got, c.want)
			}
		}
		_, of := affine.Of(e)
		_, order := affine.Compare(e, e)
		if errAtom != api.ErrForm && of != errAtom || order != expr.Check(e) {
			t.Fatal("errors of an expression", i, e, of, order)
		}
	}
	for _, err := range []api.Errno{api.OK, api.ErrRange, api.ErrForm, api.ErrOrder, api.ErrEmpty, api.ErrType, api.ErrKind} {
		if seen[err] < 10 {
			t.Error("rare", err, seen)
		}
	}
}
