package expr_test

import (
	"slices"
	"testing"

	"halation/api"
	"halation/expr"
	"halation/num"
)

// Promise P2.3.

func TestConstIntegerVar(t *testing.T) {
	for kind := range api.Kinds {
		want := api.Expr{node(api.EConst, kind, "", 1)}
		if e, err := expr.Const(api.Value{Kind: kind, Bits: 1}); !equal(e, want) || err != api.OK {
			t.Error("Const", e, err)
		}
	}
	for v, want := range map[api.Value]api.Errno{{Kind: -1}: api.ErrKind, {Kind: 11}: api.ErrKind, {Kind: api.U8, Bits: 256}: api.ErrForm, {Kind: api.F32, Bits: 1 << 31}: api.ErrForm} {
		if e, err := expr.Const(v); e != nil || err != want {
			t.Error("Const", v, e, err)
		}
	}
	for _, n := range []int{0, 1, -1, 7, 1 << 20, -1 << 20} {
		if e, err := expr.Integer(n); !equal(e, integer(int32(n))) || err != api.OK {
			t.Error("Integer", n, e, err)
		}
	}
	for _, n := range []int{1<<20 + 1, -1<<20 - 1, 1 << 32, -1 << 62} {
		if e, err := expr.Integer(n); e != nil || err != api.ErrRange {
			t.Error("Integer", n, e, err)
		}
	}
	if e, err := expr.Var("x_1"); !equal(e, variable("x_1")) || err != api.OK {
		t.Error("Var", e, err)
	}
	for _, name := range []string{"", "1x", "a b", "abcdefghijklmnopqrstuvwxy"} {
		if e, err := expr.Var(name); e != nil || err != api.ErrName {
			t.Error("Var", name, e, err)
		}
	}
}

// joined returns the expression of a node above others, by the document's words.
func joined(n api.Node, kids ...api.Expr) api.Expr {
	whole := tree{node: n}
	for _, kid := range kids {
		whole.kids = append(whole.kids, treeOf(kid, len(kid)-1))
	}
	whole.node.Lanes = 1
	if len(kids) > 0 {
		whole.node.Lanes = whole.kids[0].node.Lanes
	}
	return whole.nodes(nil)
}

// built compares an expression that was built with the one that the document wants, or its error.
func built(t *testing.T, e api.Expr, err api.Errno, want api.Expr) {
	t.Helper()
	if wrong := wrongExpr(want); err != wrong || err == api.OK && !equal(e, want) || err != api.OK && e != nil {
		t.Errorf("built %v, %v, want %v, %v", e, err, want, wrong)
	}
}

func TestBuild(t *testing.T) {
	for seed := range int64(150) {
		a, b, c := makeExpr(seed, true), makeExpr(seed+7000, true), makeExpr(seed+14000, true)
		kindA, kindB := a[len(a)-1].Kind, b[len(b)-1].Kind
		for op := api.EAdd; op <= api.ELe; op++ {
			for _, second := range []api.Expr{a, b} {
				kind, _ := num.Result(op, kindA)
				e, err := expr.Binary(op, a, second)
				built(t, e, err, joined(node(op, kind, "", 0), a, second))
			}
		}
		for kind := range api.Kinds {
			for _, op := range []int{api.ECast, api.ESat} {
				e, err := expr.Cast(op, kind, a)
				built(t, e, err, joined(node(op, kind, "", 0), a))
			}
		}
		e, err := expr.Select(a, b, c)
		built(t, e, err, joined(node(api.ESelect, kindB, "", 0), a, b, c))
		e, err = expr.Select(a, b, b)
		built(t, e, err, joined(node(api.ESelect, kindB, "", 0), a, b, b))
		for _, op := range []int{api.ECall, api.EImage, api.ELoad} {
			for _, args := range [][]api.Expr{{a}, {a, a}, {a, b, c}, {integer(3), variable("x")}, {variable("x"), integer(1), integer(2)}, {variable("y")}} {
				e, err := expr.Call(op, kindB, "f", args)
				built(t, e, err, joined(node(op, kindB, "f", 0), args...))
			}
		}
	}
}

func TestBuildExamples(t *testing.T) {
	x, y := variable("x"), variable("y")
	byte3 := api.Expr{node(api.EConst, api.U8, "", 3)}
	less := api.Expr{x[0], y[0], node(api.ELt, api.Bool, "", 0, 0, 1)}
	ramp := api.Expr{integer(0)[0], integer(1)[0], vector(api.ERamp, api.I32, 4, 0, 1)}
	many := chain(255)
	first := func(_ api.Expr, err api.Errno) api.Errno { return err }
	for i, x := range []struct{ got, want api.Errno }{
		{first(expr.Binary(api.EAdd, x, y)), api.OK},
		{first(expr.Binary(api.EAdd, x, byte3)), api.ErrType},
		{first(expr.Binary(api.EAdd, less, less)), api.ErrType},
		{first(expr.Binary(api.EAdd, x, ramp)), api.ErrVector},
		{first(expr.Binary(api.EAdd, ramp, ramp)), api.OK},
		{first(expr.Binary(api.EAdd, many, x)), api.ErrMany},
		{first(expr.Binary(api.EAdd, many, byte3)), api.ErrMany},
		{first(expr.Cast(api.ECast, api.U8, x)), api.OK},
		{first(expr.Cast(api.ECast, api.C64, many)), api.OK},
		{first(expr.Cast(api.ESat, api.F32, x)), api.ErrType},
		{first(expr.Cast(api.ESat, api.U8, less)), api.ErrType},
		{first(expr.Cast(api.ESat, api.F32, append(many, node(api.ENot, api.I32, "", 0, 254)))), api.ErrMany},
		{first(expr.Select(less, x, y)), api.OK},
		{first(expr.Select(x, x, y)), api.ErrType},
		{first(expr.Select(less, x, byte3)), api.ErrType},
		{first(expr.Select(less, ramp, ramp)), api.ErrVector},
		{first(expr.Select(many, many, byte3)), api.ErrMany},
		{first(expr.Call(api.ECall, api.F32, "f", []api.Expr{x, y, x})), api.OK},
		{first(expr.Call(api.EImage, api.F32, "f", []api.Expr{ramp, ramp})), api.OK},
		{first(expr.Call(api.EImage, api.F32, "f", []api.Expr{ramp, x})), api.ErrVector},
		{first(expr.Call(api.ECall, api.F32, "f", []api.Expr{x, byte3})), api.ErrType},
		{first(expr.Call(api.ELoad, api.F32, "f", []api.Expr{x, y})), api.ErrShape},
		{first(expr.Call(api.ELoad, api.F32, "f", []api.Expr{byte3})), api.ErrType},
		{first(expr.Call(api.ELoad, api.F32, "f", []api.Expr{many, y})), api.ErrMany},
	} {
		if x.got != x.want {
			t.Errorf("%d: %v, want %v", i, x.got, x.want)
		}
	}
	call, _ := expr.Call(api.ECall, api.U8, "f", []api.Expr{less[:1], example()})
	if len(call) != 7 || call[6].Name != "f" || call[6].Kind != api.U8 || !slices.Equal(call[6].Kids, []int{0, 5}) {
		t.Error("Call", call)
	}
}

func TestBuildErrors(t *testing.T) {
	x := variable("x")
	check := func(e api.Expr, err api.Errno) func(want api.Errno) {
		return func(want api.Errno) {
			t.Helper()
			if e != nil || err != want {
				t.Errorf("built %v, %v, want %v", e, err, want)
			}
		}
	}
	for op := -2; op <= api.Ops+2; op++ {
		if op < api.EAdd || op > api.ELe {
			check(expr.Binary(op, nil, nil))(api.ErrUnknown)
		}
		if op != api.ECast && op != api.ESat {
			check(expr.Cast(op, -1, nil))(api.ErrUnknown)
		}
		if op != api.ECall && op != api.EImage && op != api.ELoad {
			check(expr.Call(op, -1, "", nil))(api.ErrUnknown)
		}
	}
	for _, kind := range []int{-1, 11, 1 << 40} {
		check(expr.Cast(api.ECast, kind, nil))(api.ErrKind)
		check(expr.Call(api.EImage, kind, "", nil))(api.ErrKind)
	}
	check(expr.Call(api.ECall, api.U8, "", nil))(api.ErrName)
	check(expr.Call(api.ECall, api.U8, "f", nil))(api.ErrEmpty)
	check(expr.Call(api.ECall, api.U8, "f", []api.Expr{}))(api.ErrEmpty)
	check(expr.Call(api.ECall, api.U8, "f", []api.Expr{x, x, x, x}))(api.ErrMany)
	check(expr.Call(api.ECall, api.U8, "f", make([]api.Expr, 4)))(api.ErrMany)
	for _, wrong := range wrongExprs() {
		want := wrongExpr(wrong)
		other := api.Expr{node(99, 0, "", 0), node(99, 0, "", 0)}
		if want == api.ErrKind {
			other = nil
		}
		check(expr.Binary(api.EAdd, wrong, other))(want)
		check(expr.Binary(api.EAdd, x, wrong))(want)
		check(expr.Cast(api.ECast, api.U8, wrong))(want)
		check(expr.Select(wrong, other, other))(want)
		check(expr.Select(x, wrong, other))(want)
		check(expr.Select(x, x, wrong))(want)
		check(expr.Call(api.ELoad, api.U8, "f", []api.Expr{wrong, other}))(want)
		check(expr.Call(api.ELoad, api.U8, "f", []api.Expr{x, wrong, other}))(want)
	}
}
