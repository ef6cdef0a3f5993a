package affine_test

import (
	"fmt"
	"math/rand"
	"sort"
	"strings"
	"testing"

	"halation/affine"
	"halation/api"
	"halation/expr"
	"halation/lang"
	"halation/num"
	"halation/span"
)

// parsed returns the expression of a text.
func parsed(t *testing.T, s string) api.Expr {
	t.Helper()
	e, at, err := lang.Parse(s, nil)
	if err != api.OK {
		t.Fatal("Parse", s, at, err)
	}
	return e
}

// formOf returns the form with a constant, and terms of coefficients and texts of atoms in turn.
func formOf(t *testing.T, constant int, l ...any) affine.Form {
	t.Helper()
	f := affine.Form{Const: constant}
	for i := 0; i < len(l); i += 2 {
		f.Terms = append(f.Terms, affine.Term{Coeff: l[i].(int), Atom: parsed(t, l[i+1].(string))})
	}
	return f
}

// text says all of a form.
func text(f affine.Form) string {
	var out strings.Builder
	for _, t := range f.Terms {
		s, _ := lang.Print(t.Atom, nil)
		fmt.Fprint(&out, t.Coeff, " ", s, "; ")
	}
	fmt.Fprint(&out, f.Const)
	return out.String()
}

// equal reports whether two forms are the same.
func equal(f, g affine.Form) bool {
	if len(f.Terms) != len(g.Terms) || f.Const != g.Const {
		return false
	}
	for i, t := range f.Terms {
		if t.Coeff != g.Terms[i].Coeff || !expr.Same(t.Atom, g.Terms[i].Atom) {
			return false
		}
	}
	return true
}

// maker makes expressions of the kind I32 as texts.
type maker struct {
	*rand.Rand
	names []string
}

func (m maker) oneOf(l ...string) string { return l[m.Intn(len(l))] }

func (m maker) number() string {
	return m.oneOf("0", "1", "-1", "2", "3", "-4", "65536", "2147483647", "-2147483648", "7")
}

func (m maker) text(depth int) string {
	if depth <= 0 {
		return m.oneOf(m.number(), m.oneOf(m.names...), m.oneOf(m.names...), "@p.i32")
	}
	sub := func() string { return m.text(depth - 1 - m.Intn(2)) }
	switch m.Intn(14) {
	case 0, 1, 2, 3:
		return "(" + sub() + " + " + sub() + ")"
	case 4, 5, 6:
		return "(" + sub() + " - " + sub() + ")"
	case 7, 8:
		return "(" + sub() + " * " + m.number() + ")"
	case 9:
		return "(" + m.number() + " * " + sub() + ")"
	case 10:
		return "(" + sub() + m.oneOf(" * ", " / ", " % ", " << ") + sub() + ")"
	case 11:
		return m.oneOf("min(", "max(", "sat_add(") + sub() + ", " + sub() + ")"
	case 12:
		return "select(" + sub() + " < " + sub() + ", " + sub() + ", " + sub() + ")"
	}
	return m.oneOf("i32(u8("+sub()+"))", "reduce_add(ramp("+sub()+", "+sub()+", 4))", "shuffle(ramp("+sub()+", "+sub()+", 3), 2)", "min("+sub()+", 5) * 3")
}

// makeExpr makes an expression that has a form.
func makeExpr(t *testing.T, r *rand.Rand) api.Expr {
	t.Helper()
	m := maker{r, []string{"x", "y", "z", "xx"}}
	for {
		if e := parsed(t, m.text(2+m.Intn(5))); len(e) <= api.MaxNodes {
			return e
		}
	}
}

// makeForm makes a right form.
func makeForm(t *testing.T, r *rand.Rand) affine.Form {
	t.Helper()
	f := oracleOf(makeExpr(t, r))
	for i := range f.Terms {
		if r.Intn(3) == 0 {
			f.Terms[i].Coeff = r.Intn(7) - 9
		}
	}
	if r.Intn(3) == 0 {
		f.Const = []int{1 << 31 * -1, 1<<31 - 1, 4}[r.Intn(3)]
	}
	return f
}

func makeBindings(r *rand.Rand) []expr.Binding {
	var out []expr.Binding
	for _, name := range []string{"x", "y", "z", "xx", "p"} {
		v, _ := num.Wrap(api.I32, []int64{r.Int63(), int64(r.Intn(20) - 10)}[r.Intn(2)])
		out = append(out, expr.Binding{Name: name, Value: v})
	}
	return out
}

// oracleCompare is the order of expressions, in the document's words.
func oracleCompare(a, b api.Expr) int {
	less := func(x, y any) int {
		if fmt.Sprint(x) == fmt.Sprint(y) {
			return 0
		}
		var is bool
		switch x := x.(type) {
		case int:
			is = x < y.(int)
		case uint64:
			is = x < y.(uint64)
		case string:
			is = x < y.(string)
		}
		if is {
			return -1
		}
		return 1
	}
	if c := less(len(a), len(b)); c != 0 {
		return c
	}
	for i := range a {
		m, n := a[i], b[i]
		for _, pair := range [][2]any{{m.Op, n.Op}, {m.Kind, n.Kind}, {m.Lanes, n.Lanes}, {len(m.Kids), len(n.Kids)}, {m.Bits, n.Bits}, {m.Name, n.Name}} {
			if c := less(pair[0], pair[1]); c != 0 {
				return c
			}
		}
		for j := range min(len(m.Picks), len(n.Picks)) {
			if c := less(m.Picks[j], n.Picks[j]); c != 0 {
				return c
			}
		}
		if c := less(len(m.Picks), len(n.Picks)); c != 0 {
			return c
		}
	}
	return 0
}

// sum is a sum of atoms by their texts, with all coefficients, and a constant at "".
type sum map[string]int64

// oracleSum is the sum of a node, in the document's words.
func oracleSum(e api.Expr) sum {
	n := e[len(e)-1]
	kid := func(i int) api.Expr {
		part, _ := expr.Sub(e, n.Kids[i])
		return part
	}
	number := func(e api.Expr) int64 { return int64(int32(uint32(e[0].Bits))) }
	out := sum{}
	add := func(s sum, factor int64) {
		for atom, c := range s {
			out[atom] = int64(int32(out[atom] + c*factor))
		}
	}
	switch {
	case n.Op == api.EConst:
		out[""] = number(e)
	case n.Op == api.EAdd:
		add(oracleSum(kid(0)), 1)
		add(oracleSum(kid(1)), 1)
	case n.Op == api.ESub:
		add(oracleSum(kid(0)), 1)
		add(oracleSum(kid(1)), -1)
	case n.Op == api.EMul && kid(1)[len(kid(1))-1].Op == api.EConst:
		add(oracleSum(kid(0)), number(kid(1)))
	case n.Op == api.EMul && kid(0)[len(kid(0))-1].Op == api.EConst:
		add(oracleSum(kid(1)), number(kid(0)))
	default:
		s, _ := lang.Print(e, nil)
		out[s] = 1
	}
	return out
}

// form returns the form of a sum.
func (s sum) form() affine.Form {
	f := affine.Form{Const: int(s[""])}
	for atom, c := range s {
		if atom != "" && c != 0 {
			e, _, _ := lang.Parse(atom, nil)
			f.Terms = append(f.Terms, affine.Term{Coeff: int(c), Atom: e})
		}
	}
	sort.Slice(f.Terms, func(i, j int) bool { return oracleCompare(f.Terms[i].Atom, f.Terms[j].Atom) < 0 })
	return f
}

func oracleOf(e api.Expr) affine.Form {
	return oracleSum(e).form()
}

// sumOf returns the sum of a form.
func sumOf(f affine.Form) sum {
	out := sum{"": int64(f.Const)}
	for _, t := range f.Terms {
		s, _ := lang.Print(t.Atom, nil)
		out[s] = int64(t.Coeff)
	}
	return out
}

// plus returns a sum plus another one times a factor.
func (s sum) plus(u sum, factor int) sum {
	out := sum{}
	for atom, c := range s {
		out[atom] = c
	}
	for atom, c := range u {
		out[atom] = int64(int32(out[atom] + c*int64(factor)))
	}
	return out
}

func known(op int, name string, low, high int) span.Known {
	return span.Known{Op: op, Name: name, Span: span.Span{Low: low, High: high}}
}
