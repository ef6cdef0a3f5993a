package expr_test

import (
	"fmt"
	"slices"
	"testing"

	"halation/api"
	"halation/expr"
	"halation/num"
)

// Promise P2.4.

func int32Value(n int) api.Value { return api.Value{Kind: api.I32, Bits: uint64(uint32(n))} }

// must returns a value that has no error.
func must(v api.Value, err api.Errno) api.Value {
	if err != api.OK {
		panic(fmt.Sprint("no value: ", err))
	}
	return v
}

// laneOf returns the value of one lane of a node, by the document's words.
func laneOf(e api.Expr, at, lane int, values map[string]api.Value) api.Value {
	n := e[at]
	kid := func(i, lane int) api.Value { return laneOf(e, n.Kids[i], lane, values) }
	switch n.Op {
	case api.EConst:
		return api.Value{Kind: n.Kind, Bits: n.Bits}
	case api.EVar, api.EParam:
		return values[n.Name]
	case api.ENot:
		return must(num.Not(kid(0, lane)))
	case api.ECast:
		return must(num.Cast(n.Kind, kid(0, lane)))
	case api.ESat:
		return must(num.Sat(n.Kind, kid(0, lane)))
	case api.ESelect:
		return must(num.Select(kid(0, lane), kid(1, lane), kid(2, lane)))
	case api.ERamp:
		base, step := must(num.Cast(api.I64, kid(0, 0))), must(num.Cast(api.I64, kid(1, 0)))
		return must(num.Wrap(api.I32, int64(base.Bits)+int64(lane)*int64(step.Bits)))
	case api.EBroadcast:
		return kid(0, 0)
	case api.EShuffle:
		return kid(0, n.Picks[lane])
	case api.EReduce:
		out := kid(0, 0)
		for i := 1; i < e[n.Kids[0]].Lanes; i++ {
			out = must(num.Apply(int(n.Bits), out, kid(0, i)))
		}
		return out
	}
	return must(num.Apply(n.Op, kid(0, lane), kid(1, lane)))
}

// valuesOf returns the values of the lanes of an expression.
func valuesOf(e api.Expr, l []expr.Binding) []api.Value {
	values := map[string]api.Value{}
	for _, b := range l {
		values[b.Name] = b.Value
	}
	var out []api.Value
	for lane := range e[len(e)-1].Lanes {
		out = append(out, laneOf(e, len(e)-1, lane, values))
	}
	return out
}

func TestEval(t *testing.T) {
	for seed := range int64(madeExprs) {
		e, l := makeExpr(seed, false), bindings(seed)
		if v, err := expr.Eval(e, l); !slices.Equal(v, valuesOf(e, l)) || err != api.OK {
			t.Fatal("Eval", seed, v, err, valuesOf(e, l), e)
		}
	}
}

func TestEvalExamples(t *testing.T) {
	x := func(n int) []expr.Binding { return []expr.Binding{{Name: "x", Value: int32Value(n)}} }
	ramp := api.Expr{variable("x")[0], integer(2)[0], vector(api.ERamp, api.I32, 4, 0, 1)}
	shuffle := append(copied(ramp), api.Node{Op: api.EShuffle, Kind: api.I32, Lanes: 2, Picks: []int{3, 0}, Kids: []int{2}})
	sum := append(copied(ramp), node(api.EReduce, api.I32, "", api.EAdd, 2))
	for i, c := range []struct {
		e    api.Expr
		x    int
		want []int
	}{
		{example(), 5, []int{40}}, {example(), -3, []int{0}}, {example(), 65536, []int{196608}},
		{ramp, 1, []int{1, 3, 5, 7}}, {shuffle, 1, []int{7, 1}}, {sum, 1, []int{16}},
		{ramp, 1<<31 - 3, []int{1<<31 - 3, 1<<31 - 1, -1<<31 + 1, -1<<31 + 3}},
	} {
		var want []api.Value
		for _, n := range c.want {
			want = append(want, int32Value(n))
		}
		if v, err := expr.Eval(c.e, x(c.x)); !slices.Equal(v, want) || err != api.OK {
			t.Errorf("%d: %v, %v, want %v", i, v, err, want)
		}
	}
	// The lanes are combined from the first to the last one: with floats the order is seen.
	e := api.Expr{
		integer(0)[0], integer(1)[0], vector(api.ERamp, api.I32, 3, 0, 1), integer(1)[0], vector(api.EBroadcast, api.I32, 3, 3), vector(api.ELt, api.Bool, 3, 2, 4),
		node(api.EParam, api.F32, "a", 0), vector(api.EBroadcast, api.F32, 3, 6), node(api.EParam, api.F32, "b", 0), vector(api.EBroadcast, api.F32, 3, 8),
		vector(api.ESelect, api.F32, 3, 5, 7, 9), node(api.EReduce, api.F32, "", api.EAdd, 10),
	}
	a, b := api.Value{Kind: api.F32, Bits: 0x4b800000}, api.Value{Kind: api.F32, Bits: 0x3f800000} // 2^24 + 1 + 1
	if v, err := expr.Eval(e, []expr.Binding{{Name: "a", Value: a}, {Name: "b", Value: b}}); !slices.Equal(v, []api.Value{a}) || err != api.OK {
		t.Error("the order of a reduction", v, err)
	}
}

func TestEvalErrors(t *testing.T) {
	right := expr.Binding{Name: "x", Value: int32Value(1)}
	call := api.Expr{variable("x")[0], node(api.ECall, api.U8, "f", 0, 0)}
	image := api.Expr{variable("x")[0], node(api.EImage, api.U8, "f", 0, 0)}
	load := api.Expr{integer(1)[0], node(api.ELoad, api.U8, "f", 0, 0)}
	parameter := api.Expr{node(api.EParam, api.U8, "p", 0)}
	many := make([]expr.Binding, 64)
	for i := range many {
		many[i] = expr.Binding{Name: fmt.Sprint("v", i), Value: int32Value(i)}
	}
	many[63].Name = "x"
	for i, c := range []struct {
		e    api.Expr
		l    []expr.Binding
		want api.Errno
	}{
		{nil, make([]expr.Binding, 65), api.ErrEmpty},
		{example(), make([]expr.Binding, 65), api.ErrMany},
		{example(), many, api.OK},
		{example(), append(many, expr.Binding{Name: "w", Value: int32Value(1)}), api.ErrMany},
		{call, []expr.Binding{{Name: "9", Value: api.Value{Kind: 99}}}, api.ErrName},
		{call, []expr.Binding{right, {Name: "x", Value: api.Value{Kind: 99}}}, api.ErrTwice},
		{call, []expr.Binding{{Name: "y", Value: api.Value{Kind: 99}}, {Name: "9"}}, api.ErrKind},
		{call, []expr.Binding{{Name: "y", Value: api.Value{Kind: api.U8, Bits: 256}}}, api.ErrForm},
		{call, []expr.Binding{right, {Name: ""}, right}, api.ErrName},
		{call, nil, api.ErrUnknown}, {call, []expr.Binding{right}, api.ErrKind}, {image, []expr.Binding{right}, api.ErrKind}, {load, nil, api.ErrKind},
		{example(), nil, api.ErrUnknown},
		{example(), []expr.Binding{{Name: "X", Value: int32Value(1)}}, api.ErrUnknown},
		{example(), []expr.Binding{{Name: "x", Value: api.Value{Kind: api.U8, Bits: 1}}}, api.ErrType},
		{parameter, nil, api.ErrUnknown}, {parameter, []expr.Binding{{Name: "p", Value: int32Value(1)}}, api.ErrType},
		{api.Expr{parameter[0], variable("q")[0], node(api.ECall, api.U8, "f", 0, 1), node(api.EAdd, api.U8, "", 0, 0, 2)}, []expr.Binding{{Name: "p", Value: int32Value(1)}}, api.ErrType},
		{api.Expr{load[0], load[1], variable("q")[0], node(api.ECast, api.U8, "", 0, 2), node(api.EAdd, api.U8, "", 0, 1, 3)}, nil, api.ErrKind},
		{integer(1), []expr.Binding{right, {Name: "other", Value: api.Value{Kind: api.F32}}}, api.OK},
	} {
		if v, err := expr.Eval(c.e, c.l); err != c.want || err != api.OK && v != nil {
			t.Errorf("%d: %v, %v, want %v", i, v, err, c.want)
		}
	}
	for _, wrong := range wrongExprs() {
		v, e1 := expr.Eval(wrong, nil)
		f, e2 := expr.Fold(wrong)
		if v != nil || f != nil || e1 != wrongExpr(wrong) || e2 != wrongExpr(wrong) {
			t.Error("Eval, Fold of no expression", v, f, e1, e2)
		}
	}
}

// folded returns the fold of an expression, by the document's words.
func folded(e api.Expr) api.Expr {
	return treeOf(e, len(e)-1).changed(func(k tree) tree {
		if k.node.Op < api.EAdd || k.node.Op > api.ESelect {
			return k
		}
		for _, kid := range k.kids {
			if kid.node.Op != api.EConst {
				return k
			}
		}
		part := k.nodes(nil)
		v := laneOf(part, len(part)-1, 0, nil)
		return tree{node: node(api.EConst, v.Kind, "", v.Bits)}
	}).nodes(nil)
}

func TestFold(t *testing.T) {
	for seed := range int64(madeExprs) {
		e := makeExpr(seed, true)
		if f, err := expr.Fold(e); !equal(f, folded(e)) || err != api.OK {
			t.Fatal("Fold", seed, f, err, folded(e))
		}
	}
}

func TestFoldExamples(t *testing.T) {
	two, x := integer(2)[0], variable("x")[0]
	for i, c := range []struct{ e, want api.Expr }{
		{api.Expr{two, integer(3)[0], node(api.EAdd, api.I32, "", 0, 0, 1), x, node(api.EMul, api.I32, "", 0, 2, 3)}, api.Expr{integer(5)[0], x, node(api.EMul, api.I32, "", 0, 0, 1)}},
		{
			api.Expr{integer(1)[0], two, node(api.ELt, api.Bool, "", 0, 0, 1), integer(4)[0], x, node(api.ESelect, api.I32, "", 0, 2, 3, 4)},
			api.Expr{node(api.EConst, api.Bool, "", 1), integer(4)[0], x, node(api.ESelect, api.I32, "", 0, 0, 1, 2)},
		},
		{api.Expr{integer(300)[0], node(api.ECast, api.U8, "", 0, 0)}, api.Expr{node(api.EConst, api.U8, "", 44)}},
		{api.Expr{integer(300)[0], node(api.ESat, api.U8, "", 0, 0)}, api.Expr{node(api.EConst, api.U8, "", 255)}},
		{api.Expr{integer(-1)[0], node(api.ENot, api.I32, "", 0, 0)}, integer(0)},
		{example(), example()},
		{api.Expr{two, vector(api.EBroadcast, api.I32, 2, 0), node(api.EReduce, api.I32, "", api.EAdd, 1)}, api.Expr{two, vector(api.EBroadcast, api.I32, 2, 0), node(api.EReduce, api.I32, "", api.EAdd, 1)}},
		{api.Expr{two, two, node(api.EAdd, api.I32, "", 0, 0, 1), node(api.ECall, api.U8, "f", 0, 2)}, api.Expr{integer(4)[0], node(api.ECall, api.U8, "f", 0, 0)}},
		{
			api.Expr{node(api.EConst, api.Bool, "", 1), two, integer(5)[0], node(api.EMin, api.I32, "", 0, 1, 2), integer(9)[0], node(api.ESelect, api.I32, "", 0, 0, 3, 4)},
			integer(2),
		},
	} {
		if f, err := expr.Fold(c.e); !equal(f, c.want) || err != api.OK {
			t.Errorf("%d: %v, %v, want %v", i, f, err, c.want)
		}
	}
}
