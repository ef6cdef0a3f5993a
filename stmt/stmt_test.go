package stmt_test

import (
	"slices"
	"testing"

	"halation/api"
	"halation/stmt"
)

// load returns an expression with a load.
func load(name string) api.Expr {
	return api.Expr{{Op: api.EVar, Kind: api.I32, Lanes: 1, Name: "x"}, {Op: api.ELoad, Kind: api.U8, Lanes: 1, Name: name, Kids: []int{0}}}
}

// sample returns a block of a store, and of a mark with a block.
func sample() []api.Stmt {
	return []api.Stmt{
		{Op: api.SStore, Name: "a", Exprs: []api.Expr{load("i")[:1], load("a")}},
		{Op: api.SBlock},
		{Op: api.SMark, Name: "m", Kids: []int{1}},
		{Op: api.SBlock, Kids: []int{0, 2}},
	}
}

func TestFirst(t *testing.T) {
	for at, want := range []int{0, 1, 1, 0} {
		if got := stmt.First(sample(), at); got != want {
			t.Error(at, got)
		}
	}
}

func TestMoved(t *testing.T) {
	l := sample()
	out := stmt.Moved(l, 5)
	if out[2].Kids[0] != 6 || !slices.Equal(out[3].Kids, []int{5, 7}) || out[0].Name != "a" || len(out[0].Exprs) != 2 || out[0].Exprs[1][1].Name != "a" {
		t.Error(out)
	}
	out[3].Kids[0], out[0].Exprs[1][1].Kids[0], out[0].Exprs[0], out[1].Name = 9, 9, nil, "z"
	if !slices.Equal(l[3].Kids, []int{0, 2}) || l[0].Exprs[1][1].Kids[0] != 0 || l[0].Exprs[0] == nil || l[1].Name != "" {
		t.Error("memory is shared", l)
	}
	if none := stmt.Moved([]api.Stmt{{Kids: []int{-1, -1 << 63, 2}}}, 3); !slices.Equal(none[0].Kids, []int{-1, -1, 5}) {
		t.Error("what is no statement", none)
	}
	if len(stmt.Moved(nil, 1)) != 0 {
		t.Error("nothing")
	}
}

func TestOver(t *testing.T) {
	a, b := sample(), sample()[:1]
	exprs := []api.Expr{{{Op: api.EConst, Kind: api.Bool, Lanes: 1}}}
	out := stmt.Over(api.Stmt{Op: api.SIf, Exprs: exprs, Kids: []int{7}}, a, b)
	if len(out) != 6 || !slices.Equal(out[5].Kids, []int{3, 4}) || !slices.Equal(out[3].Kids, []int{0, 2}) || out[4].Op != api.SStore || len(out[5].Exprs) != 1 {
		t.Error(out)
	}
	out = stmt.Over(api.Stmt{Op: api.SBlock}, b, a)
	if !slices.Equal(out[5].Kids, []int{0, 4}) || !slices.Equal(out[4].Kids, []int{1, 3}) || out[3].Kids[0] != 2 {
		t.Error(out)
	}
	out[4].Kids[0], out[0].Exprs[0][0].Name = 9, "z"
	again := stmt.Over(api.Stmt{Op: api.SIf, Exprs: exprs})
	again[0].Exprs[0][0].Bits = 1
	if a[3].Kids[0] != 0 || b[0].Exprs[0][0].Name != "x" || exprs[0][0].Bits != 0 || len(again[0].Kids) != 0 {
		t.Error("memory is shared", a, b, exprs)
	}
}
