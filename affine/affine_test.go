package affine_test

import (
	"fmt"
	"math/rand"
	"slices"
	"strings"
	"testing"

	"halation/affine"
	"halation/api"
	"halation/expr"
)

// Promise P11.1.

func TestCompareByHand(t *testing.T) {
	// In ascending order.
	ascending := []string{
		"false", "0u8", "200u8", "0", "5", "-3", "x", "xx", "y", "@a.u8", "@a.i32", "@b.i32",
		"!true", "u8(x)", "broadcast(x, 2)", "broadcast(x, 3)", "u8(y)",
		"x + 1", "x - 1", "x + 2", "x + x", "x * x", "x + y", "x < y",
		"shuffle(broadcast(x, 4), 1)", "shuffle(broadcast(x, 4), 2)", "shuffle(broadcast(x, 4), 0, 1)", "shuffle(broadcast(x, 4), 0, 2)", "shuffle(broadcast(x, 4), 1, 0)",
		"x + y + z",
	}
	for i, first := range ascending {
		for j, second := range ascending {
			want := 0
			switch {
			case i < j:
				want = -1
			case i > j:
				want = 1
			}
			a, b := parsed(t, first), parsed(t, second)
			if got, err := affine.Compare(a, b); got != want || err != api.OK || oracleCompare(a, b) != want {
				t.Error("Compare", first, second, got, err, oracleCompare(a, b))
			}
		}
	}
}

// TestComparedFields changes each field of a node by which expressions are compared.
func TestComparedFields(t *testing.T) {
	reduce := parsed(t, "reduce_add(ramp(x, 1, 4))")
	other := parsed(t, "reduce_min(ramp(x, 1, 4))")
	if got, err := affine.Compare(reduce, other); got != -1 || err != api.OK {
		t.Error("Bits", got, err)
	}
	one, two := parsed(t, "f.i32(x, y + 1)"), parsed(t, "f.i32(x, y, 1)")
	if got, err := affine.Compare(one, two); got != 1 || err != api.OK { // at the fourth node EAdd is above EConst: it is not the calls that differ first
		t.Error("kids of a call", got, err)
	}
	one, two = parsed(t, "min(u8(x), f.u8(y))"), parsed(t, "min(f.u8(x), u8(y))")
	if got, err := affine.Compare(one, two); got != 1 || err != api.OK {
		t.Error("Op", got, err)
	}
	one, two = parsed(t, "i32(u8(x))"), parsed(t, "i32(i8(x))")
	if got, err := affine.Compare(one, two); got != -1 || err != api.OK {
		t.Error("Kind", got, err)
	}
}

func TestCompareErrors(t *testing.T) {
	x := parsed(t, "x")
	wrong := api.Expr{{Op: api.EVar, Kind: api.U8, Lanes: 1, Name: "x"}}
	for i, c := range []struct {
		a, b api.Expr
		err  api.Errno
	}{
		{nil, wrong, api.ErrEmpty},
		{wrong, nil, api.ErrType},
		{x, wrong, api.ErrType},
		{x, nil, api.ErrEmpty},
		{parsed(t, "1u8"), x, api.OK},
		{parsed(t, "ramp(x, 1, 4)"), x, api.OK},
	} {
		if got, err := affine.Compare(c.a, c.b); err != c.err || err != api.OK && got != 0 {
			t.Error("Compare", i, got, err)
		}
	}
}

func TestOfByHand(t *testing.T) {
	for s, want := range map[string]affine.Form{
		"(x + 3) * 2 - (y - x)":            formOf(t, 6, 3, "x", -1, "y"),
		"x * y":                            formOf(t, 0, 1, "x * y"),
		"x / 4 * 4":                        formOf(t, 0, 4, "x / 4"),
		"x - x":                            formOf(t, 0),
		"x + 2147483647 + 1":               formOf(t, -2147483648, 1, "x"),
		"2 * 3":                            formOf(t, 6),
		"65536 * 65536":                    formOf(t, 0),
		"x * 65536 * 65536":                formOf(t, 0),
		"x * -2147483648 - y * 3":          formOf(t, 0, -2147483648, "x", -3, "y"),
		"0 - x * -2147483648":              formOf(t, 0, -2147483648, "x"),
		"5 * (x + 1)":                      formOf(t, 5, 5, "x"),
		"(x + 1) * (y + 1)":                formOf(t, 0, 1, "(x + 1) * (y + 1)"),
		"(x + 1) * (3 - 3)":                formOf(t, 0, 1, "(x + 1) * (3 - 3)"),
		"xx + y + x / 2 + x":               formOf(t, 0, 1, "x", 1, "xx", 1, "y", 1, "x / 2"),
		"f.i32(x) + f.i32(x + 0)":          formOf(t, 0, 1, "f.i32(x)", 1, "f.i32(x + 0)"),
		"@x.i32 - x":                       formOf(t, 0, -1, "x", 1, "@x.i32"),
		"i32(x) - x":                       formOf(t, 0, -1, "x", 1, "i32(x)"),
		"select(x < 1, 2, 3) * 2":          formOf(t, 0, 2, "select(x < 1, 2, 3)"),
		"reduce_add(ramp(x, 1, 4)) - 4":    formOf(t, -4, 1, "reduce_add(ramp(x, 1, 4))"),
		"shuffle(ramp(x, 1, 4), 2) * -1":   formOf(t, 0, -1, "shuffle(ramp(x, 1, 4), 2)"),
		"(x << 1) + (x & 3) - !x":          formOf(t, 0, -1, "!x", 1, "x << 1", 1, "x & 3"),
		"sat_add(x, 1) + avg(x, 1)":        formOf(t, 0, 1, "sat_add(x, 1)", 1, "avg(x, 1)"),
		"x % 4 + x / 4 * 4":                formOf(t, 0, 4, "x / 4", 1, "x % 4"),
		"x * 2 * 3 * -1 + x * 6 + y":       formOf(t, 0, 1, "y"),
		"0":                                formOf(t, 0),
		"-2147483648":                      formOf(t, -2147483648),
		"in.i32[x, y] + b.i32{x}":          formOf(t, 0, 1, "b.i32{x}", 1, "in.i32[x, y]"),
		"(x + y) * 2147483647 * 2":         formOf(t, 0, -2, "x", -2, "y"),
		"min(x, x) + min(x, x) - min(x,x)": formOf(t, 0, 1, "min(x, x)"),
	} {
		e := parsed(t, s)
		if f, err := affine.Of(e); !equal(f, want) || err != api.OK || affine.Check(f) != api.OK {
			t.Error("Of", s, text(f), err, text(want))
		}
	}
}

// variables returns the sum of n different variables.
func variables(n int) string {
	var l []string
	for i := range n {
		l = append(l, fmt.Sprintf("v%02d", i))
	}
	return strings.Join(l, " + ")
}

func TestManyTerms(t *testing.T) {
	most := parsed(t, variables(affine.MaxTerms))
	f, err := affine.Of(most)
	if len(f.Terms) != affine.MaxTerms || err != api.OK {
		t.Error("Of as many terms as there may be", text(f), err)
	}
	e, err := affine.Expr(f)
	if !expr.Same(e, most) || err != api.OK {
		t.Error("Expr of them", e, err)
	}
	for s, want := range map[string]api.Errno{
		variables(33):                                                       api.ErrMany,
		"(" + variables(33) + ") * 0":                                       api.ErrMany,
		"(" + variables(33) + ") - v00":                                     api.ErrMany,
		"v00 - (" + variables(33) + ")":                                     api.ErrMany,
		"(" + variables(33) + ") - (" + variables(33) + ")":                 api.ErrMany,
		"(" + variables(32) + ") - (" + variables(32) + ")":                 api.OK,
		"(" + variables(32) + ") - (" + variables(31) + ") + w":             api.OK,
		"(" + variables(32) + ") + 7":                                       api.OK,
		"min(" + variables(33) + ", 7)":                                     api.OK, // an atom
		"min(" + variables(33) + ", 7) + (" + variables(31) + ")":           api.OK,
		"min(" + variables(33) + ", 7) + (" + variables(32) + ")":           api.ErrMany,
		"(" + variables(16) + ") * 2 + (" + variables(33) + ") * 65536 / 2": api.OK,
	} {
		e := parsed(t, s)
		f, err := affine.Of(e)
		is, err2 := affine.Same(e, e)
		not, err3 := affine.Same(parsed(t, "x"), e)
		if err != want || err2 != want || err3 != want || is != (want == api.OK) || not || err != api.OK && !equal(f, affine.Form{}) {
			t.Error("Of", s, text(f), err, is, err2)
		}
	}
}

func TestOfErrors(t *testing.T) {
	x := parsed(t, "x")
	many := parsed(t, variables(33))
	for i, c := range []struct {
		e   api.Expr
		err api.Errno
	}{
		{nil, api.ErrEmpty},
		{make(api.Expr, api.MaxNodes+1), api.ErrMany},
		{api.Expr{{Op: api.EAdd, Kind: api.I32, Lanes: 1, Kids: []int{5, -1}}}, api.ErrOrder},
		{parsed(t, "1u8"), api.ErrType},
		{parsed(t, "broadcast(1u8, 2)"), api.ErrType},
		{parsed(t, "ramp(x, 1, 4)"), api.ErrVector},
		{parsed(t, "ramp(x, 1, 4) + ramp(x, 1, 4)"), api.ErrVector},
		{parsed(t, "f.u32(x)"), api.ErrType},
	} {
		f, err := affine.Of(c.e)
		is1, err1 := affine.Same(x, c.e)
		is2, err2 := affine.Same(c.e, nil)
		is3, err3 := affine.Same(many, c.e)
		if !equal(f, affine.Form{}) || is1 || is2 || is3 || err != c.err || err1 != c.err || err2 != c.err || err3 != c.err {
			t.Error("errors", i, f, err, err1, err2, err3)
		}
	}
}

func TestOf(t *testing.T) {
	r := rand.New(rand.NewSource(1))
	sizes := map[int]int{}
	for i := range 3000 {
		e := makeExpr(t, r)
		want := oracleOf(e)
		f, err := affine.Of(e)
		if !equal(f, want) || err != api.OK || affine.Check(f) != api.OK {
			t.Fatal("Of", i, e, text(f), err, text(want))
		}
		sizes[len(f.Terms)]++
	}
	for n := range 6 {
		if sizes[n] < 20 {
			t.Error("rare", n, sizes)
		}
	}
}

func TestSame(t *testing.T) {
	for _, c := range []struct {
		a, b string
		is   bool
	}{
		{"x + y", "y + x", true},
		{"x * y", "y * x", false},
		{"x + 1", "x + 2", false},
		{"x + 1", "y + 1", false},
		{"x * 2", "x + x", true},
		{"x * 2", "x * 3", false},
		{"x + y", "x", false},
		{"(x + 3) * 2", "x * 2 + 6", true},
		{"(x + 1) / 2", "(1 + x) / 2", false},
		{"x * 65536 * 65536", "0", true},
	} {
		if is, err := affine.Same(parsed(t, c.a), parsed(t, c.b)); is != c.is || err != api.OK {
			t.Error("Same", c, is, err)
		}
	}
	r := rand.New(rand.NewSource(2))
	for range 500 {
		a, b := makeExpr(t, r), makeExpr(t, r)
		if is, err := affine.Same(a, b); is != equal(oracleOf(a), oracleOf(b)) || err != api.OK {
			t.Fatal("Same", a, b, is, err)
		}
	}
}

func TestExprByHand(t *testing.T) {
	for s, f := range map[string]affine.Form{
		"x * 3 + y * -1 + 6":                  formOf(t, 6, 3, "x", -1, "y"),
		"x + y":                               formOf(t, 0, 1, "x", 1, "y"),
		"x":                                   formOf(t, 0, 1, "x"),
		"x * -2147483648":                     formOf(t, 0, -2147483648, "x"),
		"0":                                   formOf(t, 0),
		"-2147483648":                         formOf(t, -2147483648),
		"x + 2147483647":                      formOf(t, 2147483647, 1, "x"),
		"x / 2 * 5 + -1":                      formOf(t, -1, 5, "x / 2"),
		"x + y * 2 + x / 2 + (x + y) / 2 * 3": formOf(t, 0, 1, "x", 2, "y", 1, "x / 2", 3, "(x + y) / 2"),
	} {
		e, err := affine.Expr(f)
		if !expr.Same(e, parsed(t, s)) || err != api.OK {
			t.Error("Expr", s, e, err)
		}
	}
}

// atomOf returns an atom with an odd number of nodes.
func atomOf(t *testing.T, nodes int) api.Expr {
	t.Helper()
	return parsed(t, "("+variables((nodes-1)/2)+") / 2")
}

func TestLargeExpr(t *testing.T) {
	for i, c := range []struct {
		f   affine.Form
		err api.Errno
	}{
		{affine.Form{Terms: []affine.Term{{Coeff: 1, Atom: atomOf(t, 255)}}}, api.OK},
		{affine.Form{Terms: []affine.Term{{Coeff: 2, Atom: atomOf(t, 253)}}}, api.OK},
		{affine.Form{Terms: []affine.Term{{Coeff: 2, Atom: atomOf(t, 255)}}}, api.ErrMany},
		{affine.Form{Terms: []affine.Term{{Coeff: 1, Atom: atomOf(t, 253)}}, Const: 1}, api.OK},
		{affine.Form{Terms: []affine.Term{{Coeff: 1, Atom: atomOf(t, 255)}}, Const: 1}, api.ErrMany},
		{affine.Form{Terms: []affine.Term{{Coeff: 1, Atom: atomOf(t, 127)}, {Coeff: 1, Atom: atomOf(t, 129)}}}, api.ErrMany},
		{affine.Form{Terms: []affine.Term{{Coeff: 1, Atom: atomOf(t, 125)}, {Coeff: 1, Atom: atomOf(t, 129)}}}, api.OK},
		{affine.Form{Terms: []affine.Term{{Coeff: 2, Atom: atomOf(t, 255)}, {Coeff: 1, Atom: parsed(t, "x")}}}, api.ErrOrder},
	} {
		if e, err := affine.Expr(c.f); err != c.err || (err == api.OK) != (expr.Check(e) == api.OK) || err != api.OK && len(e) > 0 {
			t.Error("Expr", i, len(e), err)
		}
	}
}

func TestCheck(t *testing.T) {
	term := func(c int, s string) affine.Term { return affine.Term{Coeff: c, Atom: parsed(t, s)} }
	form := func(l ...affine.Term) affine.Form { return affine.Form{Terms: l} }
	many := form(make([]affine.Term, affine.MaxTerms+1)...)
	many.Const = 1 << 40
	full, _ := affine.Of(parsed(t, variables(affine.MaxTerms)))
	for i, c := range []struct {
		f   affine.Form
		err api.Errno
	}{
		{affine.Form{}, api.OK},
		{full, api.OK},
		{many, api.ErrMany},
		{affine.Form{Const: 1 << 31, Terms: []affine.Term{{}}}, api.ErrRange},
		{affine.Form{Const: -1<<31 - 1}, api.ErrRange},
		{affine.Form{Const: -1 << 31}, api.OK},
		{affine.Form{Const: 1<<31 - 1}, api.OK},
		{form(term(1<<31, "1u8")), api.ErrRange},
		{form(term(-1<<31-1, "x")), api.ErrRange},
		{form(term(-1<<31, "x")), api.OK},
		{form(term(0, "1u8")), api.ErrForm},
		{form(affine.Term{Coeff: 1}), api.ErrEmpty},
		{form(affine.Term{Coeff: 1, Atom: api.Expr{{Op: api.EMul, Kind: api.I32, Lanes: 1, Kids: []int{9, 9}}}}), api.ErrOrder},
		{form(term(1, "1u8")), api.ErrType},
		{form(term(1, "broadcast(1u8, 2)")), api.ErrType},
		{form(term(1, "ramp(x, 1, 4)")), api.ErrVector},
		{form(term(1, "3")), api.ErrForm},
		{form(term(1, "x + y")), api.ErrForm},
		{form(term(1, "x - y")), api.ErrForm},
		{form(term(1, "x * 3")), api.ErrForm},
		{form(term(1, "3 * x")), api.ErrForm},
		{form(term(1, "3 * 4")), api.ErrForm},
		{form(term(1, "x * (3 + y)")), api.OK},
		{form(term(1, "x"), term(2, "y"), term(-1, "x * y")), api.OK},
		{form(term(1, "x"), term(1, "x")), api.ErrOrder},
		{form(term(1, "y"), term(1, "x")), api.ErrOrder},
		{form(term(1, "y"), term(1, "x"), term(0, "z")), api.ErrOrder},
		{form(term(1, "y"), term(0, "x")), api.ErrForm},
		{form(term(1, "y"), term(1, "3")), api.ErrForm},
		{form(term(1, "y"), term(1, "z"), term(1, "x / 2"), term(1, "z")), api.ErrOrder},
	} {
		if err := affine.Check(c.f); err != c.err {
			t.Error("Check", i, err, c.err)
		}
		if e, err := affine.Expr(c.f); err != c.err || (err == api.OK) == (len(e) == 0) {
			t.Error("Expr", i, err, c.err)
		}
	}
}

// Promise P11.4, for orders, forms and expressions.

func TestOrder(t *testing.T) {
	r := rand.New(rand.NewSource(3))
	for range 150 {
		var l []api.Expr
		for range 8 {
			l = append(l, makeExpr(t, r))
		}
		l = append(l, slices.Clone(l[0]))
		for _, a := range l {
			for _, b := range l {
				ab, err := affine.Compare(a, b)
				ba, _ := affine.Compare(b, a)
				if err != api.OK || ab != -ba || ab != oracleCompare(a, b) || (ab == 0) != expr.Same(a, b) {
					t.Fatal("Compare", a, b, ab, ba)
				}
				for _, c := range l {
					bc, _ := affine.Compare(b, c)
					if ac, _ := affine.Compare(a, c); ab <= 0 && bc <= 0 && ac > 0 {
						t.Fatal("not an order", a, b, c)
					}
				}
			}
		}
	}
}

func TestFormsHaveValues(t *testing.T) {
	r := rand.New(rand.NewSource(4))
	for i := range 1500 {
		e := makeExpr(t, r)
		f, err := affine.Of(e)
		if err != api.OK {
			t.Fatal("Of", i, err)
		}
		back, err := affine.Expr(f)
		if err == api.OK {
			again, err := affine.Of(back)
			if err != api.OK || !equal(again, f) {
				t.Fatal("the form of a form's expression", i, text(f), text(again), err)
			}
		} else if err != api.ErrMany {
			t.Fatal("Expr", i, err)
		}
		for range 3 {
			l := makeBindings(r)
			want, err1 := expr.Eval(e, l)
			n, err2 := affine.Value(f, l)
			if err1 != api.OK || err2 != api.OK || uint64(uint32(int32(n))) != want[0].Bits || n != int(int32(n)) {
				t.Fatal("the value of a form", i, text(f), n, err2, want)
			}
			if err != api.OK {
				continue
			}
			if v, err := expr.Eval(back, l); err != api.OK || v[0] != want[0] {
				t.Fatal("the value of a form's expression", i, text(f), v, want)
			}
		}
	}
}
