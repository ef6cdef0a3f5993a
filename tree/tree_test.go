package tree_test

import (
	"testing"

	"halation/api"
	"halation/expr"
	"halation/lang"
	"halation/tree"
)

func parsed(t *testing.T, s string) api.Expr {
	t.Helper()
	e, at, err := lang.Parse(s, nil)
	if err != api.OK {
		t.Fatal("Parse", s, at, err)
	}
	return e
}

func TestParts(t *testing.T) {
	for _, s := range []string{"x", "(x + 3) * f.i32(y, x - 1)", "select(x < y, x, y / 2)", "shuffle(ramp(x, 2, 4), 3, 0)"} {
		e := parsed(t, s)
		for node := range e {
			first, err := expr.First(e, node)
			if got := tree.First(e, node); got != first || err != api.OK {
				t.Error("First", s, node, got, first)
			}
			part, err := expr.Sub(e, node)
			if got := tree.Part(e, node); !expr.Same(got, part) || err != api.OK {
				t.Error("Part", s, node, got, part)
			}
		}
	}
}

func TestMoved(t *testing.T) {
	e := parsed(t, "shuffle(ramp(x, 2, 4), 3, 0)")
	out := tree.Moved(e, 5)
	if out[2].Kids[0] != 5 || out[2].Kids[1] != 6 || out[3].Kids[0] != 7 || len(out) != len(e) {
		t.Error("Moved", out)
	}
	out[3].Kids[0], out[3].Picks[1], out[0].Name = 9, 9, "y"
	if !expr.Same(e, parsed(t, "shuffle(ramp(x, 2, 4), 3, 0)")) {
		t.Error("Moved shares memory", e)
	}
	if out := tree.Moved(nil, 1); len(out) != 0 {
		t.Error("Moved of nothing", out)
	}
}

func TestReplaced(t *testing.T) {
	e := parsed(t, "(x + 3) * f.i32(y, x) - shuffle(ramp(y, 2, 4), 3)")
	by := map[string]api.Expr{"x": parsed(t, "y - 1"), "y": parsed(t, "shuffle(ramp(x, 1, 2), 1)")}
	find := func(n api.Node) (api.Expr, bool) {
		other, ok := by[n.Name]
		return other, ok && n.Op == api.EVar
	}
	want := "(y - 1 + 3) * f.i32(shuffle(ramp(x, 1, 2), 1), y - 1) - shuffle(ramp(shuffle(ramp(x, 1, 2), 1), 2, 4), 3)"
	out := tree.Replaced(e, find)
	if !expr.Same(out, parsed(t, want)) {
		t.Error("Replaced", out)
	}
	for _, l := range []api.Expr{out, tree.Replaced(e, func(api.Node) (api.Expr, bool) { return nil, false })} {
		for i := range l {
			for k := range l[i].Kids {
				l[i].Kids[k] = 99
			}
			for k := range l[i].Picks {
				l[i].Picks[k] = 99
			}
			l[i].Name = "z"
		}
	}
	if !expr.Same(tree.Replaced(e, find), parsed(t, want)) {
		t.Error("Replaced shares memory", e, by)
	}
	if out := tree.Replaced(nil, find); len(out) != 0 {
		t.Error("Replaced of nothing", out)
	}
}

func TestAbove(t *testing.T) {
	a, b := parsed(t, "x * 2"), parsed(t, "shuffle(ramp(y, 2, 4), 3)")
	out := tree.Above(api.ESub, a, b)
	if !expr.Same(out, parsed(t, "x * 2 - shuffle(ramp(y, 2, 4), 3)")) {
		t.Error("Above", out)
	}
	out[2].Kids[0], out[5].Kids[0], out[6].Picks[0] = 9, 9, 9
	if !expr.Same(a, parsed(t, "x * 2")) || !expr.Same(b, parsed(t, "shuffle(ramp(y, 2, 4), 3)")) {
		t.Error("Above shares memory", a, b)
	}
}

func TestOver(t *testing.T) {
	a, b, c := parsed(t, "x < 2"), parsed(t, "y * 3"), parsed(t, "shuffle(ramp(y, 2, 4), 3)")
	n := api.Node{Op: api.ESelect, Kind: api.I32, Lanes: 1, Kids: []int{7}}
	out := tree.Over(n, a, b, c)
	if !expr.Same(out, parsed(t, "select(x < 2, y * 3, shuffle(ramp(y, 2, 4), 3))")) || n.Kids[0] != 7 {
		t.Error("Over", out)
	}
	out[2].Kids[0], out[5].Kids[0], out[9].Picks[0] = 9, 9, 9
	if !expr.Same(a, parsed(t, "x < 2")) || !expr.Same(b, parsed(t, "y * 3")) || !expr.Same(c, parsed(t, "shuffle(ramp(y, 2, 4), 3)")) {
		t.Error("Over shares memory", a, b, c)
	}
	picks := api.Node{Op: api.EShuffle, Kind: api.I32, Lanes: 2, Picks: []int{1, 0}}
	out = tree.Over(picks, parsed(t, "ramp(x, 1, 2)"))
	out[3].Picks[0] = 9
	if picks.Picks[0] != 1 || len(tree.Over(api.Node{Op: api.EVar, Name: "x"})) != 1 {
		t.Error("Over shares the picks", picks)
	}
}

func TestComputed(t *testing.T) {
	for _, s := range []string{"7 + 5", "-7 / 2", "3 < 4", "!5", "!true", "u8(300)", "sat_u8(300)", "f32(3)", "select(true, 4, 5)", "select(1 < 0, 4, 5)", "dist(-3i8, 4i8)", "c64(1p0,1p0) * c64(3p0,-1p0)", "3p-1f32 * 1p1f32"} {
		e := parsed(t, s)
		if s == "select(1 < 0, 4, 5)" {
			e, _ = expr.Replace(e, 2, parsed(t, "false"))
		}
		whole := tree.Whole(e)
		var kids []api.Value
		for _, kid := range whole.Kids {
			kids = append(kids, api.Value{Kind: e[kid].Kind, Bits: e[kid].Bits})
		}
		want, err := expr.Eval(e, nil)
		if v := tree.Computed(whole, kids); v != want[0] || err != api.OK {
			t.Error("Computed", s, v, want)
		}
	}
}
