package affine_test

import (
	"fmt"
	"math/rand"
	"testing"

	"halation/affine"
	"halation/api"
	"halation/expr"
)

// Promise P11.2.

func TestSumsByHand(t *testing.T) {
	f := formOf(t, 6, 3, "x", -1, "y")
	for i, c := range []struct {
		of   func() (affine.Form, api.Errno)
		want affine.Form
	}{
		{func() (affine.Form, api.Errno) { return affine.Sum(f, formOf(t, 1, -3, "x", 2, "y"), 2) }, formOf(t, 8, -3, "x", 3, "y")},
		{func() (affine.Form, api.Errno) { return affine.Sum(f, formOf(t, 0, 1, "x"), -3) }, formOf(t, 6, -1, "y")},
		{func() (affine.Form, api.Errno) { return affine.Sum(f, f, 0) }, f},
		{func() (affine.Form, api.Errno) { return affine.Sum(f, f, -1) }, formOf(t, 0)},
		{func() (affine.Form, api.Errno) { return affine.Sum(formOf(t, 0), f, -1<<31) }, formOf(t, 0, -1<<31, "x", -1<<31, "y")},
		{func() (affine.Form, api.Errno) {
			return affine.Sum(formOf(t, 1<<31-1, 1<<31-1, "x"), formOf(t, 1, 1, "x", 1, "x / 2"), 1)
		}, formOf(t, -1<<31, -1<<31, "x", 1, "x / 2")},
		{func() (affine.Form, api.Errno) { return affine.Scaled(f, -2) }, formOf(t, -12, -6, "x", 2, "y")},
		{func() (affine.Form, api.Errno) { return affine.Scaled(f, 0) }, formOf(t, 0)},
		{func() (affine.Form, api.Errno) { return affine.Scaled(formOf(t, 65536, 65536, "x", 3, "y"), 65536) }, formOf(t, 0, 196608, "y")},
		{func() (affine.Form, api.Errno) { return affine.Scaled(formOf(t, -1<<31, -1<<31, "x"), -1) }, formOf(t, -1<<31, -1<<31, "x")},
		{func() (affine.Form, api.Errno) { return affine.Without(f, parsed(t, "x")) }, formOf(t, 6, -1, "y")},
		{func() (affine.Form, api.Errno) { return affine.Without(f, parsed(t, "y")) }, formOf(t, 6, 3, "x")},
		{func() (affine.Form, api.Errno) { return affine.Without(f, parsed(t, "z")) }, f},
		{func() (affine.Form, api.Errno) { return affine.Without(f, parsed(t, "x / 2")) }, f},
		{func() (affine.Form, api.Errno) { return affine.Subst(f, "y", formOf(t, 1, 1, "x")) }, formOf(t, 5, 2, "x")},
		{func() (affine.Form, api.Errno) { return affine.Subst(f, "x", formOf(t, 2, 1, "x", 1, "y")) }, formOf(t, 12, 3, "x", 2, "y")},
		{func() (affine.Form, api.Errno) { return affine.Subst(f, "z", formOf(t, 9, 1, "w")) }, f},
		{func() (affine.Form, api.Errno) { return affine.Subst(f, "x", formOf(t, 0)) }, formOf(t, 6, -1, "y")},
		{func() (affine.Form, api.Errno) {
			return affine.Subst(formOf(t, 0, 2, "x", 1, "@x.i32", 1, "x / 2"), "x", formOf(t, 5))
		}, formOf(t, 10, 1, "@x.i32", 1, "x / 2")},
	} {
		if got, err := c.of(); !equal(got, c.want) || err != api.OK {
			t.Error(i, text(got), err, text(c.want))
		}
	}
}

func TestCoeff(t *testing.T) {
	f := formOf(t, 6, 3, "x", -1, "y", 7, "x / 2", -1<<31, "x * y")
	for s, want := range map[string]int{"x": 3, "y": -1, "z": 0, "xx": 0, "a": 0, "x / 2": 7, "x / 3": 0, "x * y": -1 << 31, "y * x": 0, "@x.i32": 0} {
		if c, err := affine.Coeff(f, parsed(t, s)); c != want || err != api.OK {
			t.Error("Coeff", s, c, err)
		}
	}
}

func TestSolveByHand(t *testing.T) {
	for i, c := range []struct {
		f    affine.Form
		name string
		want affine.Form
		is   bool
	}{
		{formOf(t, 6, 3, "x", -1, "y"), "y", formOf(t, 6, 3, "x"), true},
		{formOf(t, 6, 3, "x", -1, "y"), "x", affine.Form{}, false},
		{formOf(t, 6, 3, "x", -1, "y"), "z", affine.Form{}, false},
		{formOf(t, 6, 3, "x", 1, "y"), "y", formOf(t, -6, -3, "x"), true},
		{formOf(t, 0, 1, "x"), "x", formOf(t, 0), true},
		{formOf(t, -1<<31, 1, "x", -1<<31, "y"), "x", formOf(t, -1<<31, -1<<31, "y"), true},
		{formOf(t, 0, 1, "x", 1, "x / 2"), "x", affine.Form{}, false},
		{formOf(t, 0, 1, "x", 1, "y / 2"), "x", formOf(t, 0, -1, "y / 2"), true},
		{formOf(t, 0, 1, "x", 1, "@x.i32", 1, "x.i32(y)"), "x", formOf(t, 0, -1, "@x.i32", -1, "x.i32(y)"), true},
		{formOf(t, 0, 1, "y", 1, "f.i32(x)"), "x", affine.Form{}, false},
		{formOf(t, 0), "x", affine.Form{}, false},
		{formOf(t, 0, 1, "@x.i32"), "x", affine.Form{}, false},
	} {
		if f, is, err := affine.Solve(c.f, c.name); !equal(f, c.want) || is != c.is || err != api.OK {
			t.Error("Solve", i, text(f), is, err)
		}
	}
}

func TestSums(t *testing.T) {
	r := rand.New(rand.NewSource(11))
	for i := range 800 {
		f, g := makeForm(t, r), makeForm(t, r)
		factor := []int{0, 1, -1, 2, 65536, 1<<31 - 1, -1 << 31, r.Intn(100) - 50}[r.Intn(8)]
		want := sumOf(f).plus(sumOf(g), factor).form()
		got, err := affine.Sum(f, g, factor)
		if !equal(got, want) || err != api.OK || affine.Check(got) != api.OK {
			t.Fatal("Sum", i, text(f), text(g), factor, text(got), err, text(want))
		}
		got, err = affine.Scaled(f, factor)
		if want := (sum{}).plus(sumOf(f), factor).form(); !equal(got, want) || err != api.OK {
			t.Fatal("Scaled", i, text(f), factor, text(got), err, text(want))
		}
		for _, name := range []string{"x", "y", "z"} {
			puts(t, r, f, g, name)
		}
	}
}

// puts compares what is said of one variable.
func puts(t *testing.T, r *rand.Rand, f, g affine.Form, name string) {
	t.Helper()
	own := sumOf(f)
	c := int(own[name])
	x := parsed(t, name)
	if got, err := affine.Coeff(f, x); got != c || err != api.OK {
		t.Fatal("Coeff", text(f), name, got, err)
	}
	delete(own, name)
	got, err := affine.Without(f, x)
	if !equal(got, own.form()) || err != api.OK {
		t.Fatal("Without", text(f), name, text(got), err)
	}
	put, err := affine.Subst(f, name, g)
	if want := own.plus(sumOf(g), c).form(); !equal(put, want) || err != api.OK {
		t.Fatal("Subst", text(f), name, text(g), text(put), err, text(want))
	}
	solved, is, err := affine.Solve(f, name)
	inner := false
	for _, term := range got.Terms {
		free, _ := expr.Free(term.Atom)
		for _, other := range free {
			inner = inner || other == name
		}
	}
	if is != ((c == 1 || c == -1) && !inner) || err != api.OK {
		t.Fatal("Solve", text(f), name, text(solved), is, err)
	}
	if !is {
		if !equal(solved, affine.Form{}) {
			t.Fatal("a form that is not solved", text(solved))
		}
		return
	}
	// Promise P11.4: what is solved for, put in, gives 0.
	if zero, err := affine.Subst(f, name, solved); !equal(zero, affine.Form{}) || err != api.OK {
		t.Fatal("what is solved for does not give 0", text(f), name, text(solved), text(zero), err)
	}
	if want := (sum{}).plus(own, -c).form(); !equal(solved, want) {
		t.Fatal("Solve", text(f), name, text(solved), text(want))
	}
}

// TestOrderOfSums: promise P11.4.
func TestOrderOfSums(t *testing.T) {
	r := rand.New(rand.NewSource(12))
	add := func(f, g affine.Form) affine.Form {
		out, err := affine.Sum(f, g, 1)
		if err != api.OK {
			t.Fatal("Sum", err)
		}
		return out
	}
	for range 300 {
		f, g, h := makeForm(t, r), makeForm(t, r), makeForm(t, r)
		if !equal(add(f, g), add(g, f)) || !equal(add(add(f, g), h), add(f, add(g, h))) {
			t.Fatal("the order of sums", text(f), text(g), text(h))
		}
	}
}

func TestSumsErrors(t *testing.T) {
	f := formOf(t, 6, 3, "x", -1, "y")
	full, _ := affine.Of(parsed(t, variables(affine.MaxTerms)))
	range1, form0 := affine.Form{Const: 1 << 31}, affine.Form{Terms: []affine.Term{{}}}
	x, three, wrong, vector := parsed(t, "x"), parsed(t, "3"), parsed(t, "1u8"), parsed(t, "ramp(x, 1, 4)")
	sumOf := func(a, b affine.Form, factor int) func() (affine.Form, api.Errno) {
		return func() (affine.Form, api.Errno) { return affine.Sum(a, b, factor) }
	}
	subst := func(f affine.Form, name string, by affine.Form) func() (affine.Form, api.Errno) {
		return func() (affine.Form, api.Errno) { return affine.Subst(f, name, by) }
	}
	scaled := func(f affine.Form, factor int) func() (affine.Form, api.Errno) {
		return func() (affine.Form, api.Errno) { return affine.Scaled(f, factor) }
	}
	for i, c := range []struct {
		of  func() (affine.Form, api.Errno)
		err api.Errno
	}{
		{sumOf(range1, form0, 1<<31), api.ErrRange},
		{sumOf(form0, range1, 1<<31), api.ErrForm},
		{sumOf(f, form0, 1<<31), api.ErrForm},
		{sumOf(f, f, 1<<31), api.ErrRange},
		{sumOf(f, f, -1<<31-1), api.ErrRange},
		{sumOf(full, f, 1), api.ErrMany},
		{sumOf(full, f, 0), api.OK},
		{sumOf(f, full, 1), api.ErrMany},
		{sumOf(full, full, -1), api.OK},
		{scaled(form0, 1<<31), api.ErrForm},
		{scaled(f, 1<<31), api.ErrRange},
		{scaled(f, -1<<31), api.OK},
		{subst(form0, "9", range1), api.ErrForm},
		{subst(f, "9", range1), api.ErrName},
		{subst(f, "", range1), api.ErrName},
		{subst(f, "x", range1), api.ErrRange},
		{subst(f, "x", full), api.ErrMany},
		{subst(f, "z", full), api.OK},
		{subst(full, "v00", f), api.ErrMany},
		{subst(full, "v00", formOf(t, 0, 1, "w")), api.OK},
	} {
		if got, err := c.of(); err != c.err || err != api.OK && !equal(got, affine.Form{}) {
			t.Error("errors", i, text(got), err, c.err)
		}
	}
	for i, c := range []struct {
		f    affine.Form
		atom api.Expr
		err  api.Errno
	}{
		{form0, nil, api.ErrForm},
		{f, nil, api.ErrEmpty},
		{f, wrong, api.ErrType},
		{f, vector, api.ErrVector},
		{f, three, api.ErrForm},
		{f, parsed(t, "x + y"), api.ErrForm},
		{f, parsed(t, "x * 3"), api.ErrForm},
		{f, x, api.OK},
	} {
		n, err1 := affine.Coeff(c.f, c.atom)
		g, err2 := affine.Without(c.f, c.atom)
		if err1 != c.err || err2 != c.err || c.err != api.OK && (n != 0 || !equal(g, affine.Form{})) {
			t.Error("errors of an atom", i, n, text(g), err1, err2)
		}
	}
	for i, c := range []struct {
		f    affine.Form
		name string
		err  api.Errno
	}{{form0, "9", api.ErrForm}, {f, "9", api.ErrName}, {f, "a b", api.ErrName}} {
		if g, is, err := affine.Solve(c.f, c.name); err != c.err || is || !equal(g, affine.Form{}) {
			t.Error("Solve", i, text(g), is, err)
		}
	}
}

func TestNothingIsShared(t *testing.T) {
	shared := "shuffle(ramp(x, y, 4), 2)"
	f, g := formOf(t, 6, 3, "x", -1, shared), formOf(t, 6, 1, "y", 2, shared)
	e := parsed(t, "x + "+shared)
	kept := fmt.Sprint(f, g, e)
	spoil := func(l ...affine.Form) {
		for _, h := range l {
			for i := range h.Terms {
				for j := range h.Terms[i].Atom {
					n := &h.Terms[i].Atom[j]
					clear(n.Kids)
					clear(n.Picks)
					n.Name = "spoilt"
				}
				h.Terms[i].Coeff = 77
			}
		}
	}
	for range 2 {
		a, _ := affine.Sum(f, g, 2)
		b, _ := affine.Scaled(f, 1)
		c, _ := affine.Without(f, parsed(t, "z"))
		d, _ := affine.Subst(f, "z", g)
		of, _ := affine.Of(e)
		solved, _, _ := affine.Solve(g, "y")
		spoil(a, b, c, d, of, solved)
		back, _ := affine.Expr(f)
		for i := range back {
			clear(back[i].Kids)
			clear(back[i].Picks)
		}
		if fmt.Sprint(f, g, e) != kept {
			t.Fatal("an argument was changed", f, g, e)
		}
	}
	double := parsed(t, shared+" + "+shared+" / 2 + "+shared)
	h, _ := affine.Of(double)
	clear(h.Terms[0].Atom[3].Picks)
	if text(h) != "2 shuffle(ramp(x, y, 4), 0); 1 shuffle(ramp(x, y, 4), 2) / 2; 0" {
		t.Error("two atoms share memory", text(h))
	}
}
