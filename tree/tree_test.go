package tree_test

import (
	"testing"

	"halation/api"
	"halation/expr"
	"halation/lang"
	"halation/tree"
)

func parsed(t *testing.T, s string) api.Expr {
	t.Helper()
	e, at, err := lang.Parse(s, nil)
	if err != api.OK {
		t.Fatal("Parse", s, at, err)
	}
	return e
}

func TestParts(t *testing.T) {
	for _, s := range []string{"x", "(x + 3) * f.i32(y, x - 1)", "select(x < y, x, y / 2)", "shuffle(ramp(x, 2, 4), 3, 0)"} {
		e := parsed(t, s)
		for node := range e {
			first, err := expr.First(e, node)
			if got := tree.First(e, node); got != first || err != api.OK {
				t.Error("First", s, node, got, first)
			}
			part, err := expr.Sub(e, node)
			if got := tree.Part(e, node); !expr.Same(got, part) || err != api.OK {
				t.Error("Part", s, node, got, part)
			}
		}
	}
}

func TestMoved(t *testing.T) {
	e := parsed(t, "shuffle(ramp(x, 2, 4), 3, 0)")
	out := tree.Moved(e, 5)
	if out[2].Kids[0] != 5 || out[2].Kids[1] != 6 || out[3].Kids[0] != 7 || len(out) != len(e) {
		t.Error("Moved", out)
	}
	out[3].Kids[0], out[3].Picks[1], out[0].Name = 9, 9, "y"
	if !expr.Same(e, parsed(t, "shuffle(ramp(x, 2, 4), 3, 0)")) {
		t.Error("Moved shares memory", e)
	}
	if out := tree.Moved(nil, 1); len(out) != 0 {
		t.Error("Moved of nothing", out)
	}
}

func TestReplaced(t *testing.T) {
	e := parsed(t, "(x + 3) * f.i32(y, x) - shuffle(ramp(y, 2, 4), 3)")
	by := map[string]api.Expr{"x": parsed(t, "y - 1"), "y": parsed(t, "shuffle(ramp(x, 1, 2), 1)")}
	find := func(n api.Node) (api.Expr, bool) {
		other, ok := by[n.Name]
		return other, ok && n.Op == api.EVar
	}
	want := "(y - 1 + 3) * f.i32(shuffle(ramp(x, 1, 2), 1), y - 1) - shuffle(ramp(shuffle(ramp(x, 1, 2), 1), 2, 4), 3)"
	out := tree.Replaced(e, find)
	if !expr.Same(out, parsed(t, want)) {
		t.Error("Replaced", out)
	}
	for _, l := range []api.Expr{out, tree.Replaced(e, func(api.Node) (api.Expr, bool) { return nil, false })} {
		for i := range l {
			for k := range l[i].Kids {
				l[i].Kids[k] = 99
			}
			for k := range l[i].Picks {
				l[i].Picks[k] = 99
			}
			l[i].Name = "z"
		}
	}
	if !expr.Same(tree.Replaced(e, find), parsed(t, want)) {
		t.Error("Replaced shares memory", e, by)
	}
	if out := tree.Replaced(nil, find); len(out) != 0 {
		t.Error("Replaced of nothing", out)
	}
}

func TestAbove(t *testing.T) {
	a, b := parsed(t, "x * 2"), parsed(t, "shuffle(ramp(y, 2, 4), 3)")
	out := tree.Above(api.ESub, a, b)
	if !expr.Same(out, parsed(t, "x * 2 - shuffle(ramp(y, 2, 4), 3)")) {
		t.Error("Above", out)
	}
	out[2].Kids[0], out[5].Kids[0], out[6].Picks[0] = 9, 9, 9
	if !expr.Same(a, parsed(t, "x * 2")) || !expr.Same(b, parsed(t, "shuffle(ramp(y, 2, 4), 3)")) {
		t.Error("Above shares memory", a, b)
	}
}
