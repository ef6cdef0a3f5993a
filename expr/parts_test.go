package expr_test

import (
	"slices"
	"testing"

	"halation/api"
	"halation/expr"
)

// Promise P2.2.

func TestFirstAndSub(t *testing.T) {
	for at, want := range []int{0, 1, 0, 3, 0} {
		if first, err := expr.First(example(), at); first != want || err != api.OK {
			t.Error("First", at, first, err)
		}
	}
	if sub, err := expr.Sub(example(), 2); !equal(sub, example()[:3]) || err != api.OK {
		t.Error("Sub", sub, err)
	}
	if sub, err := expr.Sub(example(), 3); !equal(sub, variable("x")) || err != api.OK {
		t.Error("Sub", sub, err)
	}
	for seed := range int64(300) {
		e := makeExpr(seed, true)
		for at := range e {
			want := treeOf(e, at).nodes(nil)
			first, err := expr.First(e, at)
			sub, err2 := expr.Sub(e, at)
			if first != at-len(want)+1 || !equal(sub, want) || err != api.OK || err2 != api.OK {
				t.Fatal("First, Sub", at, first, sub, want, err, err2)
			}
		}
	}
}

func TestReplace(t *testing.T) {
	seven := api.Expr{integer(7)[0], node(api.EVar, api.I32, "x", 0), node(api.EMul, api.I32, "", 0, 0, 1)}
	if r, err := expr.Replace(example(), 2, integer(7)); !equal(r, seven) || err != api.OK {
		t.Error("Replace", r, err)
	}
	if r, err := expr.Replace(example(), 4, variable("y")); !equal(r, variable("y")) || err != api.OK {
		t.Error("Replace of the whole", r, err)
	}
	other := api.Expr{node(api.EConst, api.U8, "", 7)}
	if r, err := expr.Replace(example(), 4, other); !equal(r, other) || err != api.OK {
		t.Error("the whole may have another kind", r, err)
	}
	if r, err := expr.Replace(example(), 0, other); r != nil || err != api.ErrType {
		t.Error("Replace by another kind", r, err)
	}
	ramp := api.Expr{integer(0)[0], integer(1)[0], vector(api.ERamp, api.I32, 2, 0, 1)}
	if r, err := expr.Replace(example(), 0, ramp); r != nil || err != api.ErrVector {
		t.Error("Replace by other lanes", r, err)
	}
	cast := api.Expr{integer(0)[0], node(api.ECast, api.U8, "", 0, 0)}
	if r, err := expr.Replace(cast, 0, other); len(r) != 2 || err != api.OK {
		t.Error("a cast takes other kinds", r, err)
	}
	for nodes, want := range map[int]api.Errno{251: api.OK, 253: api.ErrMany, 255: api.ErrMany} {
		if r, err := expr.Replace(example(), 0, chain(nodes)); err != want || err == api.OK && len(r) != nodes+4 || err != api.OK && r != nil {
			t.Error("Replace by many nodes", nodes, len(r), err)
		}
	}
	boolean := append(chain(253), integer(1)[0], node(api.ELt, api.Bool, "", 0, 252, 253))
	if r, err := expr.Replace(example(), 0, boolean); r != nil || err != api.ErrMany {
		t.Error("ErrMany comes before ErrType", r, err)
	}
	for seed := range int64(200) {
		e, by := makeExpr(seed, true), makeExpr(seed+1000, true)
		for at := range e {
			put := treeOf(by, len(by)-1)
			if at%2 == 0 { // one that fits
				put = tree{node: node(api.EParam, e[at].Kind, "p", 0)}
				if lanes := e[at].Lanes; lanes > 1 {
					put = tree{node: vector(api.EBroadcast, e[at].Kind, lanes), kids: []tree{put}}
				}
			}
			want := replaced(e, len(e)-1, at, put).nodes(nil)
			wrong := expr.Check(want)
			r, err := expr.Replace(e, at, put.nodes(nil))
			if err != wrong || err == api.OK && !equal(r, want) || err != api.OK && r != nil {
				t.Fatal("Replace", seed, at, err, wrong, r, want)
			}
		}
	}
}

// replaced returns the tree of a node in which that of another one is put in place of a third one.
func replaced(e api.Expr, whole, at int, put tree) tree {
	if whole == at {
		return put
	}
	out := tree{node: e[whole]}
	for _, kid := range e[whole].Kids {
		out.kids = append(out.kids, replaced(e, kid, at, put))
	}
	return out
}

func TestSubst(t *testing.T) {
	by := api.Expr{variable("y")[0], integer(1)[0], node(api.ESub, api.I32, "", 0, 0, 1)}
	want := api.Expr{
		by[0], by[1], by[2], integer(3)[0], node(api.EAdd, api.I32, "", 0, 2, 3),
		by[0], by[1], node(api.ESub, api.I32, "", 0, 5, 6), node(api.EMul, api.I32, "", 0, 4, 7),
	}
	if s, err := expr.Subst(example(), "x", by); !equal(s, want) || err != api.OK {
		t.Error("Subst", s, err)
	}
	if s, err := expr.Subst(example(), "q", by); !equal(s, example()) || err != api.OK {
		t.Error("Subst of a variable that is not there", s, err)
	}
	self := api.Expr{variable("x")[0], variable("x")[0], node(api.EAdd, api.I32, "", 0, 0, 1)}
	if s, err := expr.Subst(example(), "x", self); len(s) != 9 || err != api.OK {
		t.Error("variables in what is put in stay", s, err)
	}
	parameter := api.Expr{node(api.EParam, api.I32, "x", 0)}
	if s, err := expr.Subst(parameter, "x", by); !equal(s, parameter) || err != api.OK {
		t.Error("a parameter is no variable", s, err)
	}
	for seed := range int64(300) {
		e := makeExpr(seed, true)
		for _, name := range []string{"x", "y", "_z1", "f", "p_i32"} {
			want := treeOf(e, len(e)-1).changed(func(k tree) tree {
				if k.node.Op == api.EVar && k.node.Name == name {
					return treeOf(by, 2)
				}
				return k
			}).nodes(nil)
			s, err := expr.Subst(e, name, by)
			if len(want) > api.MaxNodes {
				if s != nil || err != api.ErrMany {
					t.Fatal("Subst with many nodes", len(s), err)
				}
			} else if !equal(s, want) || err != api.OK {
				t.Fatal("Subst", name, s, want, err)
			}
		}
	}
}

func TestSubstErrors(t *testing.T) {
	ramp := api.Expr{integer(0)[0], integer(1)[0], vector(api.ERamp, api.I32, 2, 0, 1)}
	other := api.Expr{node(api.EConst, api.U8, "", 7)}
	for i, x := range []struct {
		e    api.Expr
		name string
		by   api.Expr
		want api.Errno
	}{
		{nil, "9", nil, api.ErrEmpty},
		{example(), "9", nil, api.ErrName},
		{example(), "", integer(1), api.ErrName},
		{example(), "x", nil, api.ErrEmpty},
		{example(), "x", other, api.ErrType},
		{example(), "q", other, api.ErrType},
		{example(), "x", ramp, api.ErrType},
		{example(), "q", ramp, api.ErrType},
		{chain(255), "x", append(integer(1), node(api.ENot, api.I32, "", 0, 0)), api.ErrMany},
		{chain(255), "x", chain(255), api.ErrMany},
		{chain(255), "x", integer(1), api.OK},
		{chain(255), "q", chain(255), api.OK},
	} {
		if s, err := expr.Subst(x.e, x.name, x.by); err != x.want || err != api.OK && s != nil {
			t.Errorf("%d: %v, want %v", i, err, x.want)
		}
	}
}

func TestFreeAndUses(t *testing.T) {
	e := api.Expr{
		node(api.EVar, api.I32, "b", 0), node(api.EVar, api.I32, "a", 0), node(api.ECall, api.I32, "f", 0, 0, 1), node(api.EParam, api.I32, "p", 0), node(api.EAdd, api.I32, "", 0, 2, 3),
		node(api.EVar, api.I32, "b", 0), node(api.EImage, api.I32, "in", 0, 5), node(api.EAdd, api.I32, "", 0, 4, 6), node(api.EVar, api.I32, "f", 0), node(api.ELoad, api.I32, "buf", 0, 8), node(api.EAdd, api.I32, "", 0, 7, 9),
		node(api.EVar, api.I32, "c", 0), node(api.ECall, api.I32, "a", 0, 11), node(api.EAdd, api.I32, "", 0, 10, 12),
	}
	for op, want := range map[int][]string{api.EVar: {"b", "a", "f", "c"}, api.EParam: {"p"}, api.ECall: {"f", "a"}, api.EImage: {"in"}, api.ELoad: {"buf"}} {
		if names, err := expr.Uses(e, op); !slices.Equal(names, want) || err != api.OK {
			t.Error("Uses", op, names, err)
		}
		if names, err := expr.Uses(integer(1), op); len(names) != 0 || err != api.OK {
			t.Error("Uses of nothing", op, names, err)
		}
	}
	if names, err := expr.Free(e); !slices.Equal(names, []string{"b", "a", "f", "c"}) || err != api.OK {
		t.Error("Free", names, err)
	}
	if names, err := expr.Free(example()); !slices.Equal(names, []string{"x"}) || err != api.OK {
		t.Error("Free", names, err)
	}
	for op := -2; op <= api.Ops+2; op++ {
		if op >= api.EVar && op <= api.ELoad {
			continue
		}
		if names, err := expr.Uses(e, op); names != nil || err != api.ErrUnknown {
			t.Error("Uses of another Op", op, names, err)
		}
		if names, err := expr.Uses(nil, op); names != nil || err != api.ErrEmpty {
			t.Error("the expression is asked first", op, names, err)
		}
	}
}

func TestPartsErrors(t *testing.T) {
	for _, wrong := range wrongExprs() {
		want := wrongExpr(wrong)
		_, e1 := expr.First(wrong, -1)
		s2, e2 := expr.Sub(wrong, -1)
		s3, e3 := expr.Replace(wrong, -1, nil)
		s4, e4 := expr.Replace(example(), 0, wrong)
		n5, e5 := expr.Free(wrong)
		n6, e6 := expr.Uses(wrong, -1)
		s7, e7 := expr.Subst(wrong, "", nil)
		s8, e8 := expr.Subst(example(), "q", wrong)
		for i, err := range []api.Errno{e1, e2, e3, e4, e5, e6, e7, e8} {
			if err != want {
				t.Errorf("function %d: %v, want %v", i, err, want)
			}
		}
		if s2 != nil || s3 != nil || s4 != nil || n5 != nil || n6 != nil || s7 != nil || s8 != nil {
			t.Error("results beside an error", wrong)
		}
	}
	for _, at := range []int{-1, 5, 6, 1 << 40, -1 << 40} {
		first, e1 := expr.First(example(), at)
		sub, e2 := expr.Sub(example(), at)
		r, e3 := expr.Replace(example(), at, nil)
		if first != 0 || sub != nil || r != nil || e1 != api.ErrUnknown || e2 != api.ErrUnknown || e3 != api.ErrUnknown {
			t.Error("no such node", at, first, sub, r, e1, e2, e3)
		}
	}
}

func TestSame(t *testing.T) {
	if !expr.Same(nil, nil) || !expr.Same(nil, api.Expr{}) || !expr.Same(example(), example()) || expr.Same(example(), nil) || expr.Same(example(), example()[:4]) {
		t.Error("Same")
	}
	full := api.Node{Op: 99, Kind: -1, Lanes: 3, Name: "?", Bits: 7, Picks: []int{1}, Kids: []int{2}}
	if !expr.Same(api.Expr{full}, api.Expr{full}) {
		t.Error("expressions that are not right may be the same")
	}
	for i, change := range []func(n *api.Node){
		func(n *api.Node) { n.Op = 1 }, func(n *api.Node) { n.Kind = 1 }, func(n *api.Node) { n.Lanes = 1 }, func(n *api.Node) { n.Name = "" }, func(n *api.Node) { n.Bits = 0 },
		func(n *api.Node) { n.Picks = nil }, func(n *api.Node) { n.Picks = []int{2} }, func(n *api.Node) { n.Kids = nil }, func(n *api.Node) { n.Kids = []int{2, 2} },
	} {
		other := full
		change(&other)
		if expr.Same(api.Expr{full}, api.Expr{other}) || expr.Same(api.Expr{other, full}, api.Expr{full, full}) {
			t.Error("Same of different nodes", i)
		}
	}
	empty := full
	empty.Picks, empty.Kids = nil, nil
	also := full
	also.Picks, also.Kids = []int{}, []int{}
	if !expr.Same(api.Expr{empty}, api.Expr{also}) {
		t.Error("a nil list is an empty one")
	}
}

// TestMemory changes what was given and what was returned: neither is seen in the other, and no argument is changed.
func TestMemory(t *testing.T) {
	given := api.Expr{integer(1)[0], vector(api.EBroadcast, api.I32, 4, 0), {Op: api.EShuffle, Kind: api.I32, Lanes: 1, Picks: []int{3}, Kids: []int{1}}, variable("x")[0], node(api.EAdd, api.I32, "", 0, 2, 3)}
	before := copied(given)
	results := func() []api.Expr {
		sub, _ := expr.Sub(given, 4)
		replaced, _ := expr.Replace(given, 3, given)
		subst, _ := expr.Subst(given, "x", given)
		same, _ := expr.Subst(given, "q", given)
		binary, _ := expr.Binary(api.EAdd, given, given)
		cast, _ := expr.Cast(api.ECast, api.U8, given)
		condition, _ := expr.Binary(api.ELt, given, given)
		choice, _ := expr.Select(condition, given, given)
		call, _ := expr.Call(api.ECall, api.U8, "f", []api.Expr{given, given})
		fold, _ := expr.Fold(given)
		return []api.Expr{sub, replaced, subst, same, binary, cast, choice, call, fold}
	}
	first, second := results(), results()
	if !equal(given, before) {
		t.Fatal("an argument was changed")
	}
	for i := range first {
		want := copied(first[i])
		for at := range given {
			spoil(&given[at])
		}
		if !equal(first[i], want) || !equal(second[i], want) {
			t.Error("a result shares memory with an argument", i)
		}
		given = copied(before)
		for at := range first[i] {
			node := copied(second[i])[at]
			spoil(&first[i][at])
			if !equal(second[i], want) || !equal(given, before) {
				t.Error("a result shares memory with an argument or another result", i)
			}
			first[i][at] = node
			if !equal(first[i], want) {
				t.Error("two nodes of a result share memory", i)
			}
		}
	}
}

// spoil changes all that a node has, its lists in place.
func spoil(n *api.Node) {
	for _, l := range [][]int{n.Picks[:cap(n.Picks)], n.Kids[:cap(n.Kids)]} {
		for i := range l {
			l[i] = -9
		}
	}
	n.Op, n.Name = 99, "?"
}
