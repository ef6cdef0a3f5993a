package prove_test

import (
	"slices"
	"testing"

	"halation/affine"
	"halation/api"
	"halation/expr"
	"halation/lang"
	"halation/prove"
	"halation/span"
)

func parsed(t *testing.T, s string) api.Expr {
	t.Helper()
	e, at, err := lang.Parse(s, nil)
	if err != api.OK {
		t.Fatal("Parse", s, at, err)
	}
	return e
}

func formOf(t *testing.T, s string) affine.Form {
	t.Helper()
	f, err := affine.Of(parsed(t, s))
	if err != api.OK {
		t.Fatal("affine.Of", s, err)
	}
	return f
}

func formsOf(t *testing.T, texts ...string) []affine.Form {
	t.Helper()
	var out []affine.Form
	for _, s := range texts {
		out = append(out, formOf(t, s))
	}
	return out
}

func knownOf(names ...string) []span.Known {
	var out []span.Known
	for i, name := range names {
		out = append(out, span.Known{Op: api.EVar, Name: name, Span: of(-i, 9)})
	}
	return out
}

// Promise P12.2.

func TestOf(t *testing.T) {
	l := append(knownOf("x", "y", "z"), span.Known{Op: api.EParam, Name: "p", Span: of(1, 2)})
	for i, x := range []struct {
		goal  string
		given []string
		want  prove.Claim
		atoms []string
	}{
		{"y * 2 + 1", []string{"x", "x * 3 - y - 5"}, prove.Claim{Spans: []span.Span{of(0, 9), of(-1, 9)}, Given: []prove.Line{line(0, 1, 0), line(-5, 3, -1)}, Goal: line(1, 0, 2)}, []string{"x", "y"}},
		{"3", nil, prove.Claim{Goal: line(3)}, nil},
		{"3", []string{"-1", "x - x"}, prove.Claim{Given: []prove.Line{line(-1), line(0)}, Goal: line(3)}, nil},
		// atoms with fewer nodes are before others; variables are before parameters
		{"z / 4 + z", []string{"@p.i32 - x * y"}, prove.Claim{Spans: []span.Span{of(-2, 9), of(1, 2), of(-9, 81), of(-1, 2)}, Given: []prove.Line{line(0, 0, 1, -1, 0)}, Goal: line(0, 1, 0, 0, 1)}, []string{"z", "@p.i32", "x * y", "z / 4"}},
		{"min(x, 4) - min(x, 4)", []string{"max(x, 4)"}, prove.Claim{Spans: []span.Span{of(4, 9)}, Given: []prove.Line{line(0, 1)}, Goal: line(0, 0)}, []string{"max(x, 4)"}},
		{"i32(f.u8(x))", nil, prove.Claim{Spans: []span.Span{of(0, 255)}, Goal: line(0, 1)}, []string{"i32(f.u8(x))"}},
		{"min(q, 1048576) + max(q / 2048, -1048576)", nil, prove.Claim{}, nil},
		{"max(min(q, 1048576), -1048576)", nil, prove.Claim{Spans: []span.Span{of(-1<<20, 1<<20)}, Goal: line(0, 1)}, []string{"max(min(q, 1048576), -1048576)"}},
	} {
		c, atoms, err := prove.Of(formOf(t, x.goal), formsOf(t, x.given...), l)
		if i == 6 {
			if err != api.ErrOpen || !same(c, prove.Claim{}) || len(atoms) > 0 {
				t.Error(i, c, atoms, err)
			}
			continue
		}
		var want []api.Expr
		for _, s := range x.atoms {
			want = append(want, parsed(t, s))
		}
		if !same(c, x.want) || !slices.EqualFunc(atoms, want, expr.Same) || err != api.OK {
			t.Error(i, c, atoms, err)
		}
	}
}

func TestOfErrors(t *testing.T) {
	l := knownOf("a", "b", "c", "d", "e", "f", "g", "x")
	x := formOf(t, "x")
	wrong := affine.Form{Const: 1 << 31}
	worse := affine.Form{Terms: []affine.Term{{Coeff: 0, Atom: x.Terms[0].Atom}}}
	wrongKnown := []span.Known{{Op: api.EVar, Name: "x", Span: of(1, 0)}}
	many := make([]affine.Form, 13)
	for i := range many {
		many[i] = worse
	}
	seven := formOf(t, "a + b + c + d + e + f + g")
	for i, c := range []struct {
		goal  affine.Form
		given []affine.Form
		l     []span.Known
		want  api.Errno
	}{
		{wrong, many, wrongKnown, api.ErrRange},
		{x, many, wrongKnown, api.ErrMany},
		{x, many[:12], wrongKnown, api.ErrForm},
		{x, []affine.Form{x, wrong, worse}, wrongKnown, api.ErrRange},
		{seven, nil, wrongKnown, api.ErrOrder},
		{seven, nil, nil, api.ErrMany},
		{formOf(t, "a + b + c"), formsOf(t, "c + d + e", "f + a + g"), l, api.ErrMany},
		{formOf(t, "a + b + c"), formsOf(t, "c + d + e", "f + a"), l, api.OK},
		{x, make([]affine.Form, 12), l, api.OK},
		{formOf(t, "y * 1048577"), nil, l, api.ErrOpen},
		{formOf(t, "x * 1048577"), nil, l, api.ErrRange},
		{formOf(t, "x * -1048576 + y / 2048 + -2147483648"), nil, l, api.OK},
		{x, formsOf(t, "x * -1048577"), l, api.ErrRange},
		{x, formsOf(t, "z"), l, api.ErrOpen},
		{x, nil, []span.Known{{Op: api.EVar, Name: "x", Span: of(-1048577, 0)}}, api.ErrOpen},
		{x, nil, []span.Known{{Op: api.EVar, Name: "x", Span: of(0, 1048577)}}, api.ErrOpen},
		{x, nil, []span.Known{{Op: api.EVar, Name: "x", Span: of(-1048576, 1048576)}}, api.OK},
		{x, nil, []span.Known{{Op: api.EParam, Name: "x", Span: of(0, 0)}}, api.ErrOpen},
		{x, nil, []span.Known{{Op: api.EVar, Name: "x", Span: of(1<<40+1, 1<<41)}}, api.ErrRange},
	} {
		claim, atoms, err := prove.Of(c.goal, c.given, c.l)
		if err != c.want || err != api.OK && (!same(claim, prove.Claim{}) || len(atoms) > 0) {
			t.Error(i, claim, atoms, err, c.want)
		}
	}
}

// TestOfMade compares claims of forms with the values of forms.
func TestOfMade(t *testing.T) {
	names := []string{"x", "y", "z"}
	l := knownOf(names...)
	for seed := range int64(1000) {
		m := made(seed)
		texts := []string{"x", "y", "z", "x / 2", "x * y", "min(z, 3)"}
		form := func() affine.Form {
			f := affine.Form{Const: m.number(50)}
			for range m.Intn(4) {
				f, _ = affine.Sum(f, formOf(t, texts[m.Intn(len(texts))]), m.number(5))
			}
			return f
		}
		goal := form()
		given := []affine.Form{form(), form()}[:m.Intn(3)]
		c, atoms, err := prove.Of(goal, given, l)
		if err != api.OK || prove.CheckClaim(c) != api.OK || len(atoms) != len(c.Spans) {
			t.Fatal(seed, goal, given, c, atoms, err)
		}
		for range 5 {
			var bindings []expr.Binding
			for i, name := range names {
				bindings = append(bindings, expr.Binding{Name: name, Value: api.Value{Kind: api.I32, Bits: uint64(uint32(m.Intn(10+i) - i))}})
			}
			var point []int
			for _, atom := range atoms {
				v, _ := expr.Eval(atom, bindings)
				point = append(point, int(int32(v[0].Bits)))
			}
			for i, f := range append(given, goal) {
				want, _ := affine.Value(f, bindings)
				got, err := prove.Value(append(c.Given, c.Goal)[i], point)
				if got != want || err != api.OK {
					t.Fatal("the value of a line", seed, i, got, want, err)
				}
			}
			for i, n := range point {
				if outside(n, c.Spans[i].Low, c.Spans[i].High) {
					t.Fatal("beyond the span", seed, atoms[i], n, c.Spans[i])
				}
			}
		}
		for i := 1; i < len(atoms); i++ {
			if order, _ := affine.Compare(atoms[i-1], atoms[i]); order >= 0 {
				t.Fatal("the order of atoms", seed, atoms)
			}
		}
	}
}
