package span_test

import (
	"fmt"
	"math/rand"
	"slices"
	"testing"

	"halation/api"
	"halation/expr"
	"halation/lang"
	"halation/num"
	"halation/span"
)

// oracle says what is known of nodes, in the document's words; what operations do with spans is asked of Apply.
type oracle struct {
	e api.Expr
	l []span.Known
}

func (o oracle) fact(at int) span.Fact {
	if _, small := wholeOf(o.e[at].Kind); !small {
		return span.Fact{}
	}
	return span.Fact{Is: true, Span: o.span(at)}
}

func (o oracle) span(at int) span.Span {
	n := o.e[at]
	whole, _ := wholeOf(n.Kind)
	kid := func(i int) span.Span { return o.fact(n.Kids[i]).Span }
	switch {
	case n.Op == api.EConst:
		v, _ := num.Int(api.Value{Kind: n.Kind, Bits: n.Bits})
		return of(int(v), int(v))
	case n.Op <= api.ELoad:
		return o.known(n, whole)
	case n.Op <= api.ELe:
		return o.binary(n, whole)
	case n.Op == api.ENot:
		s, _ := span.Not(n.Kind, kid(0))
		return s
	case n.Op == api.ECast || n.Op == api.ESat:
		if !o.fact(n.Kids[0]).Is {
			return whole
		}
		s, _ := span.Convert(n.Op, o.e[n.Kids[0]].Kind, n.Kind, kid(0))
		return s
	case n.Op == api.ESelect:
		switch kid(0) {
		case of(1, 1):
			return kid(1)
		case of(0, 0):
			return kid(2)
		}
		s, _ := span.Hull(kid(1), kid(2))
		return s
	case n.Op == api.ERamp:
		steps, _ := span.Apply(api.EMul, api.I32, of(0, n.Lanes-1), kid(1))
		s, _ := span.Apply(api.EAdd, api.I32, kid(0), steps)
		return s
	case n.Op == api.EReduce:
		s := kid(0)
		for i := 1; i < o.e[n.Kids[0]].Lanes; i++ {
			s, _ = span.Apply(int(n.Bits), n.Kind, s, kid(0))
		}
		return s
	}
	return kid(0)
}

func (o oracle) known(n api.Node, whole span.Span) span.Span {
	for _, k := range o.l {
		if k.Op == n.Op && k.Name == n.Name {
			if s, is, _ := span.Meet(k.Span, whole); is {
				return s
			}
		}
	}
	return whole
}

func (o oracle) binary(n api.Node, whole span.Span) span.Span {
	a, _ := expr.Sub(o.e, n.Kids[0])
	b, _ := expr.Sub(o.e, n.Kids[1])
	first, second := o.fact(n.Kids[0]), o.fact(n.Kids[1])
	if expr.Same(a, b) {
		switch n.Op {
		case api.ESub, api.EXor, api.EDist, api.ENe, api.ELt:
			return of(0, 0)
		case api.EEq, api.ELe:
			return of(1, 1)
		case api.EMin, api.EMax, api.EAnd, api.EOr, api.EAvg:
			return first.Span
		}
	}
	if !first.Is || !second.Is {
		return whole
	}
	s, _ := span.Apply(n.Op, o.e[n.Kids[0]].Kind, first.Span, second.Span)
	return s
}

const madeExprs = 3000

// Promise P10.3.

func TestNodes(t *testing.T) {
	seen := map[string]int{}
	for seed := range int64(madeExprs) {
		e, l := makeExpr(seed, true), makeKnown(seed)
		if err := expr.Check(e); err != api.OK {
			t.Fatal("what is made is not right", seed, err)
		}
		o := oracle{e, l}
		all, err := span.Nodes(e, l)
		if err != api.OK || len(all) != len(e) {
			t.Fatal("Nodes", seed, all, err)
		}
		for at, fact := range all {
			if want := o.fact(at); fact != want {
				t.Fatal("Nodes", seed, at, e[at], fact, want)
			}
			seen[fmt.Sprint(e[at].Op, fact.Is)]++
		}
		last := all[len(all)-1]
		if fact, err := span.Of(e, l); fact != last || err != api.OK {
			t.Fatal("Of", seed, fact, err, last)
		}
		decided(t, e, l, last)
	}
	for op := range api.Ops {
		if op != api.EVar && op != api.ERamp && op < api.EEq && op != api.EMod && seen[fmt.Sprint(op, false)] < 5 || seen[fmt.Sprint(op, true)] < 5 {
			t.Error("rare", op, seen)
		}
	}
}

func decided(t *testing.T, e api.Expr, l []span.Known, last span.Fact) {
	t.Helper()
	want, wantErr := -1, api.OK
	switch {
	case e[len(e)-1].Kind != api.Bool:
		want, wantErr = 0, api.ErrType
	case last.Span == of(0, 0):
		want = 0
	case last.Span == of(1, 1):
		want = 1
	}
	if n, err := span.Decide(e, l); n != want || err != wantErr {
		t.Fatal("Decide", e, l, n, err, want, wantErr)
	}
}

// parsed returns the expression of a text.
func parsed(t *testing.T, s string) api.Expr {
	t.Helper()
	e, at, err := lang.Parse(s, nil)
	if err != api.OK {
		t.Fatal("Parse", s, at, err)
	}
	return e
}

func TestByHand(t *testing.T) {
	l := []span.Known{
		{Op: api.EVar, Name: "x", Span: of(0, 9)},
		{Op: api.EVar, Name: "far", Span: of(1<<35, 1<<36)},
		{Op: api.EVar, Name: "half", Span: of(0, 1<<36)},
		{Op: api.EParam, Name: "p", Span: of(-5, 300)},
		{Op: api.EParam, Name: "f", Span: of(1, 1)},
		{Op: api.ECall, Name: "f", Span: of(400, 500)},
		{Op: api.EImage, Name: "f", Span: of(40, 50)},
		{Op: api.ELoad, Name: "f", Span: of(4, 5)},
	}
	whole := of(-2147483648, 2147483647)
	for s, want := range map[string]span.Span{
		"(x + 1) * 2 - x":                   of(-7, 20),
		"x - x":                             of(0, 0),
		"(y + 1) - (y + 1)":                 of(0, 0),
		"(y + 1) - (1 + y)":                 whole,
		"min(x, x)":                         of(0, 9),
		"x / x":                             of(0, 9),
		"sat_sub(x, x)":                     of(-9, 9),
		"x % x":                             of(0, 8),
		"far":                               whole,
		"half":                              of(0, 2147483647),
		"@p.u8":                             of(0, 255),
		"@p.i16":                            of(-5, 300),
		"@f.u8":                             of(1, 1),
		"f.u8(x)":                           of(0, 255),
		"f.u16(x)":                          of(400, 500),
		"f.u16[x]":                          of(40, 50),
		"f.u16{x}":                          of(4, 5),
		"g.u16{x}":                          of(0, 65535),
		"dist(@p.i16, @p.i16)":              of(0, 0),
		"dist(@q.i32, @q.i32)":              of(0, 0),
		"dist(@p.i16, 2i16)":                of(0, 298),
		"@q.u64 == @q.u64":                  of(1, 1),
		"@q.c64 != @q.c64":                  of(0, 0),
		"@q.f32 < @q.f32":                   of(0, 0),
		"@q.f32 <= @q.f32":                  of(1, 1),
		"@q.f32 <= @p.f32":                  of(0, 1),
		"u8(@q.f32)":                        of(0, 255),
		"sat_u8(@q.i64)":                    of(0, 255),
		"sat_u8(x * 100)":                   of(0, 255),
		"u8(x * 100)":                       of(0, 255),
		"u8(x + 256)":                       of(0, 9),
		"!(x < 10)":                         of(0, 0),
		"!u8(x)":                            of(246, 255),
		"bool(x)":                           of(0, 1),
		"bool(x + 1)":                       of(1, 1),
		"select(x < 10, x, 70)":             of(0, 9),
		"select(10 < x, x, 70)":             of(70, 70),
		"select(x < 5, x, 70)":              of(0, 70),
		"ramp(x, 3, 4)":                     of(0, 18),
		"broadcast(x, 4)":                   of(0, 9),
		"shuffle(ramp(x, 3, 4), 0)":         of(0, 18),
		"reduce_add(ramp(x, 3, 4))":         of(0, 72),
		"reduce_min(ramp(x, 3, 4))":         of(0, 18),
		"reduce_xor(ramp(x, 3, 4))":         of(0, 31),
		"reduce_add(broadcast(u8(100), 4))": of(0, 255),
		"reduce_add(broadcast(u8(50), 4))":  of(200, 200),
		"ramp(1, 1073741824, 3)":            whole,
		"select(x < 5, @q.u8, 3u8)":         of(0, 255),
	} {
		if f, err := span.Of(parsed(t, s), l); f != (span.Fact{Is: true, Span: want}) || err != api.OK {
			t.Error(s, f, err, want)
		}
	}
	for _, s := range []string{"@q.f32", "@q.u64 + 1u64", "select(x < 5, @q.f32, @q.f32)", "1u64", "dist(@q.i64, @q.i64)", "c64(x)", "broadcast(@q.c64, 3)"} {
		if f, err := span.Of(parsed(t, s), l); f != (span.Fact{}) || err != api.OK {
			t.Error(s, f, err)
		}
	}
	for s, want := range map[string]int{"x < 10": 1, "9 < x": 0, "x < 5": -1, "x == x": 1, "y != y": 0, "(x < 10) & (9 < x)": 0, "true": 1, "false": 0} {
		if n, err := span.Decide(parsed(t, s), l); n != want || err != api.OK {
			t.Error("Decide", s, n, err)
		}
	}
	f, err := span.Nodes(parsed(t, "@q.f32 < 3p0f32"), l)
	if want := []span.Fact{{}, {}, {Is: true, Span: of(0, 1)}}; !slices.Equal(f, want) || err != api.OK {
		t.Error("Nodes", f, err)
	}
}

func TestNodesErrors(t *testing.T) {
	x := parsed(t, "x")
	wrong := []span.Known{{Op: api.EAdd, Name: "x"}}
	for i, c := range []struct {
		e      api.Expr
		l      []span.Known
		err    api.Errno
		decide api.Errno
	}{
		{nil, wrong, api.ErrEmpty, api.ErrEmpty},
		{make(api.Expr, api.MaxNodes+1), wrong, api.ErrMany, api.ErrMany},
		{api.Expr{{Op: api.EVar, Kind: api.U8, Lanes: 1, Name: "x"}}, wrong, api.ErrType, api.ErrType},
		{api.Expr{{Op: api.EAdd, Kind: api.U8, Lanes: 1, Kids: []int{-1, 7}}}, nil, api.ErrOrder, api.ErrOrder},
		{x, wrong, api.ErrKind, api.ErrKind},
		{x, []span.Known{{Op: api.EVar, Name: "x"}, {Op: api.EVar, Name: "x"}}, api.ErrTwice, api.ErrTwice},
		{x, make([]span.Known, api.MaxNodes+1), api.ErrMany, api.ErrMany},
		{x, nil, api.OK, api.ErrType},
	} {
		l, err1 := span.Nodes(c.e, c.l)
		f, err2 := span.Of(c.e, c.l)
		n, err3 := span.Decide(c.e, c.l)
		if err1 != c.err || err2 != c.err || err3 != c.decide || n != 0 || c.err != api.OK && (len(l) > 0 || f != span.Fact{}) {
			t.Error("errors", i, l, f, n, err1, err2, err3)
		}
	}
}

// Promise P10.4, for expressions.

// makeBindings makes values within what is known.
func makeBindings(r *rand.Rand, l []span.Known) []expr.Binding {
	var out []expr.Binding
	bind := func(op int, name string, kind int) {
		whole, small := wholeOf(kind)
		if !small {
			v, _ := num.Cast(kind, valueOf(api.I16, r.Intn(100)-50))
			out = append(out, expr.Binding{Name: name, Value: v})
			return
		}
		s := oracle{l: l}.known(api.Node{Op: op, Name: name}, whole)
		out = append(out, expr.Binding{Name: name, Value: valueOf(kind, within(r, s))})
	}
	for _, name := range []string{"x", "y", "z"} {
		bind(api.EVar, name, api.I32)
	}
	for kind := range api.Kinds {
		bind(api.EParam, fmt.Sprint("p", kind), kind)
	}
	return out
}

func TestValuesAreInSpans(t *testing.T) {
	for seed := range int64(madeExprs / 3) {
		e, l := makeExpr(seed, false), makeKnown(seed)
		all, err := span.Nodes(e, l)
		if err != api.OK {
			t.Fatal("Nodes", seed, err)
		}
		r := rand.New(rand.NewSource(seed))
		for range 4 {
			b := makeBindings(r, l)
			for at, fact := range all {
				part, _ := expr.Sub(e, at)
				values, err := expr.Eval(part, b)
				if err != api.OK {
					t.Fatal("Eval", seed, err)
				}
				for _, v := range values {
					if fact.Is && !has(fact.Span, v) {
						t.Fatal("a value is not in the span", seed, at, part, b, v, fact)
					}
				}
			}
		}
	}
}

func TestNothingIsShared(t *testing.T) {
	e, l := parsed(t, "(x + 1) - (x + 1) + f.i32(x, y)"), makeKnown(1)
	keptExpr, keptKnown := fmt.Sprint(e), fmt.Sprint(l)
	first, _ := span.Nodes(e, l)
	want := slices.Clone(first)
	clear(first)
	if again, _ := span.Nodes(e, l); !slices.Equal(again, want) || fmt.Sprint(e) != keptExpr || fmt.Sprint(l) != keptKnown {
		t.Error("Nodes", again, want, e, l)
	}
}
