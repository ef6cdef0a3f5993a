package loop_test

import (
	"fmt"
	"slices"
	"strings"
	"testing"

	"halation/api"
	"halation/loop"
	"halation/sample"
)

// Promises P18.1 and P18.2.

const head = "buffer a u8 0:6\nbuffer out u8 0:4\n"

const example = head + "for x ; 0 ; 4 {\n  store out ; x ; a{x} + a{x + 1}\n}\n"

// TestExamples has the examples of the chapter.
func TestExamples(t *testing.T) {
	p := parsed(t, example)
	if at, err := loop.Check(p); at != 0 || err != api.OK {
		t.Error("P", at, err)
	}
	if s, err := loop.Print(p); s != example || err != api.OK {
		t.Error("Print", s, err)
	}
	change := func(f func(p *api.Program)) (int, api.Errno) {
		p := parsed(t, example)
		f(&p)
		return loop.Check(p)
	}
	rename := func(op int, name string) func(p *api.Program) {
		return func(p *api.Program) {
			for _, e := range p.Stmts[0].Exprs {
				for i := range e {
					if e[i].Op == op {
						e[i].Name = name
					}
				}
			}
		}
	}
	for i, x := range []struct {
		f   func(p *api.Program)
		at  int
		err api.Errno
	}{
		{rename(api.EVar, "y"), 0, api.ErrUnknown},
		{rename(api.ELoad, "b"), 0, api.ErrUnknown},
		{func(p *api.Program) { p.Stmts[1].Loop = 6 }, 1, api.ErrKind},
		{func(p *api.Program) {
			p.Stmts = []api.Stmt{p.Stmts[0], p.Stmts[0], p.Stmts[1]}
			p.Stmts[2].Kids = []int{1}
		}, -1, api.ErrForm},
		{func(p *api.Program) { p.Stmts[1].Loop = api.Vector }, 0, api.OK},
		{func(p *api.Program) { p.Stmts[1].Loop, p.Stmts[1].Exprs[1][0].Bits = api.Vector, 33 }, 1, api.ErrRange},
	} {
		if at, err := change(x.f); at != x.at || err != x.err {
			t.Error(i, at, err)
		}
	}
	q := parsed(t, head+"for y ; 0 ; 2 {\n  for x ; 0 ; y {\n    store out ; x ; a{x}\n  }\n}\n")
	q.Stmts[1].Loop = api.Vector
	if at, err := loop.Check(q); at != 1 || err != api.ErrForm {
		t.Error("a Vector loop of y times", at, err)
	}
	variables, buffers, err := loop.Known(p, 0)
	depth, err2 := loop.Depth(p)
	if !slices.Equal(variables, []string{"x"}) || !slices.Equal(buffers, []string{"a", "out"}) || depth != 1 || err+err2 != api.OK {
		t.Error("Known, Depth", variables, buffers, depth, err, err2)
	}
	stores, err1 := loop.Stores(p, "out")
	loads, err2 := loop.Loads(p, "a")
	none, err3 := loop.Loads(p, "out")
	if !slices.Equal(stores, []int{0}) || !slices.Equal(loads, []int{0}) || len(none) != 0 || err1+err2+err3 != api.OK {
		t.Error("Stores, Loads", stores, loads, none)
	}
}

// constant returns a constant of the kind I32, value one of another kind.
func constant(n int) api.Expr {
	return value(api.I32, uint64(uint32(int32(n))))
}

func value(kind int, bits uint64) api.Expr {
	return api.Expr{{Op: api.EConst, Kind: kind, Lanes: 1, Bits: bits}}
}

// spread returns a constant in several lanes.
func spread(e api.Expr, lanes int) api.Expr {
	return append(e, api.Node{Op: api.EBroadcast, Kind: e[0].Kind, Lanes: lanes, Kids: []int{0}})
}

// TestHeads has the errors beside which there is no statement.
func TestHeads(t *testing.T) {
	block := []api.Stmt{{Op: api.SBlock}}
	buffer := func(name string, kind int, box ...api.Range) api.Buffer {
		return api.Buffer{Name: name, Kind: kind, Box: box}
	}
	one := api.Range{Extent: 1}
	many := make([]api.Stmt, 2001)
	for i := range many {
		many[i] = api.Stmt{Op: api.SMark, Name: "m", Kids: []int{i - 1}}
	}
	many[0] = api.Stmt{Op: api.SBlock}
	for i, x := range []struct {
		p   api.Program
		err api.Errno
	}{
		{api.Program{Buffers: make([]api.Buffer, 6)}, api.ErrMany},
		{api.Program{Buffers: []api.Buffer{buffer("a", api.U8, one), buffer("b", api.U8, one), buffer("c", api.U8, one), buffer("d", api.U8, one), buffer("e", api.U8, one)}, Stmts: block}, api.OK},
		{api.Program{Buffers: []api.Buffer{buffer("", api.Kinds)}, Params: make([]api.Param, 5)}, api.ErrName},
		{api.Program{Buffers: []api.Buffer{buffer("abcdefghijklmnopqrstuvwxy", api.U8, one)}}, api.ErrName},
		{api.Program{Buffers: []api.Buffer{buffer("a", api.U8, one), buffer("a", api.Kinds)}}, api.ErrTwice},
		{api.Program{Buffers: []api.Buffer{buffer("a", api.Kinds)}}, api.ErrKind},
		{api.Program{Buffers: []api.Buffer{buffer("a", -1, one)}}, api.ErrKind},
		{api.Program{Buffers: []api.Buffer{buffer("a", api.U8)}}, api.ErrDims},
		{api.Program{Buffers: []api.Buffer{buffer("a", api.U8, api.Range{Extent: 65})}}, api.ErrRange},
		{api.Program{Buffers: []api.Buffer{buffer("a", api.U8, api.Range{Extent: 64}, api.Range{Extent: 64}, api.Range{Extent: 2})}}, api.ErrMany},
		{api.Program{Buffers: []api.Buffer{buffer("a", api.C64, api.Range{Extent: 0})}, Stmts: block}, api.OK},
		{api.Program{Params: make([]api.Param, 5)}, api.ErrMany},
		{api.Program{Params: []api.Param{{Name: "9", Kind: api.C64}}}, api.ErrName},
		{api.Program{Buffers: []api.Buffer{buffer("a", api.U8, one)}, Params: []api.Param{{Name: "a", Kind: api.C64}}}, api.ErrTwice},
		{api.Program{Params: []api.Param{{Name: "a", Kind: api.U8}, {Name: "a", Kind: api.C64}}}, api.ErrTwice},
		{api.Program{Params: []api.Param{{Name: "a", Kind: api.C64, Low: 9}}}, api.ErrKind},
		{api.Program{Params: []api.Param{{Name: "a", Kind: api.U8, Low: 256, High: 3}}}, api.ErrRange},
		{api.Program{Params: []api.Param{{Name: "a", Kind: api.U8, Low: 2, High: 1}}}, api.ErrOrder},
		{api.Program{Params: []api.Param{{Name: "a", Kind: api.F32, High: 1<<24 + 1}}}, api.ErrRange},
		{api.Program{Params: []api.Param{{Name: "a", Kind: api.U64, High: 1<<63 - 1}, {Name: "b", Kind: api.Bool, High: 1}, {Name: "c", Kind: api.F32, Low: -1 << 24}}, Stmts: block}, api.OK},
		{api.Program{}, api.ErrEmpty},
		{api.Program{Stmts: many}, api.ErrMany},
		{api.Program{Stmts: many[:2000]}, api.OK},
		{api.Program{Stmts: append(block, block...)}, api.ErrForm},
	} {
		want := -1
		if x.err == api.OK {
			want = 0
		}
		if at, err := loop.Check(x.p); at != want || err != x.err {
			t.Error(i, at, err)
		}
	}
}

// TestForms has what a statement alone may have wrong, in the order in which it is asked.
func TestForms(t *testing.T) {
	zero, yes := constant(0), value(api.Bool, 1)
	exprs := func(l ...api.Expr) []api.Expr { return l }
	kids := func(l ...int) []int { return l }
	for i, x := range []struct {
		s   api.Stmt
		err api.Errno
	}{
		{api.Stmt{Op: api.Stmts}, api.ErrKind},
		{api.Stmt{Op: -1}, api.ErrKind},
		{api.Stmt{Op: api.SBlock, Kind: 1, Name: "x"}, api.ErrKind},
		{api.Stmt{Op: api.SBlock, Loop: 1, Name: "x"}, api.ErrKind},
		{api.Stmt{Op: api.SBlock, Name: "x", Exprs: exprs(nil)}, api.ErrName},
		{api.Stmt{Op: api.SBlock, Exprs: exprs(nil)}, api.ErrShape},
		{api.Stmt{Op: api.SBlock, Kids: make([]int, 65)}, api.ErrShape},
		{api.Stmt{Op: api.SBlock, Kids: make([]int, 64)}, api.ErrOrder},
		{api.Stmt{Op: api.SBlock, Kids: kids(1)}, api.ErrOrder},
		{api.Stmt{Op: api.SBlock, Kids: kids(0, 1)}, api.ErrOrder},
		{api.Stmt{Op: api.SBlock, Kids: kids(-1)}, api.ErrOrder},
		{api.Stmt{Op: api.SBlock, Kids: kids(0)}, api.OK},
		{api.Stmt{Op: api.SFor, Loop: 6, Name: "9"}, api.ErrKind},
		{api.Stmt{Op: api.SFor, Loop: -1}, api.ErrKind},
		{api.Stmt{Op: api.SFor, Kind: 1}, api.ErrKind},
		{api.Stmt{Op: api.SFor, Name: "9"}, api.ErrName},
		{api.Stmt{Op: api.SFor}, api.ErrName},
		{api.Stmt{Op: api.SFor, Name: "x", Kids: kids(0)}, api.ErrShape},
		{api.Stmt{Op: api.SFor, Name: "x", Exprs: exprs(zero, zero)}, api.ErrShape},
		{api.Stmt{Op: api.SFor, Name: "x", Exprs: exprs(nil, zero), Kids: kids(1)}, api.ErrOrder},
		{api.Stmt{Op: api.SFor, Name: "x", Exprs: exprs(nil, yes), Kids: kids(0)}, api.ErrEmpty},
		{api.Stmt{Op: api.SFor, Name: "x", Exprs: exprs(yes, nil), Kids: kids(0)}, api.ErrType},
		{api.Stmt{Op: api.SFor, Name: "x", Exprs: exprs(zero, yes), Kids: kids(0)}, api.ErrType},
		{api.Stmt{Op: api.SFor, Name: "x", Exprs: exprs(spread(zero, 2), spread(zero, 2)), Kids: kids(0)}, api.ErrVector},
		{api.Stmt{Op: api.SFor, Name: "x", Exprs: exprs(zero, spread(zero, 2)), Kids: kids(0)}, api.ErrVector},
		{api.Stmt{Op: api.SFor, Name: "x", Loop: api.Vector, Exprs: exprs(spread(zero, 2), yes), Kids: kids(0)}, api.ErrForm},
		{api.Stmt{Op: api.SFor, Name: "x", Loop: api.Vector, Exprs: exprs(spread(zero, 2), zero), Kids: kids(0)}, api.ErrForm},
		{api.Stmt{Op: api.SFor, Name: "x", Loop: api.Vector, Exprs: exprs(zero, zero), Kids: kids(0)}, api.ErrRange},
		{api.Stmt{Op: api.SFor, Name: "x", Loop: api.Vector, Exprs: exprs(constant(-9), constant(32)), Kids: kids(0)}, api.OK},
		{api.Stmt{Op: api.SFor, Name: "x", Loop: api.Vector, Exprs: exprs(zero, constant(33)), Kids: kids(0)}, api.ErrRange},
		{api.Stmt{Op: api.SFor, Name: "x", Loop: api.Unrolled, Exprs: exprs(spread(zero, 2), spread(zero, 2)), Kids: kids(0)}, api.ErrForm},
		{api.Stmt{Op: api.SFor, Name: "x", Loop: api.Unrolled, Exprs: exprs(spread(zero, 2), constant(65)), Kids: kids(0)}, api.ErrVector},
		{api.Stmt{Op: api.SFor, Name: "x", Loop: api.Unrolled, Exprs: exprs(zero, constant(65)), Kids: kids(0)}, api.ErrRange},
		{api.Stmt{Op: api.SFor, Name: "x", Loop: api.Unrolled, Exprs: exprs(zero, constant(-1)), Kids: kids(0)}, api.ErrRange},
		{api.Stmt{Op: api.SFor, Name: "x", Loop: api.Unrolled, Exprs: exprs(zero, constant(64)), Kids: kids(0)}, api.OK},
		{api.Stmt{Op: api.SFor, Name: "x", Loop: api.Unrolled, Exprs: exprs(zero, zero), Kids: kids(0)}, api.OK},
		{api.Stmt{Op: api.SAlloc, Name: "x", Kind: api.Kinds}, api.ErrKind},
		{api.Stmt{Op: api.SAlloc, Name: "x", Kind: api.C64, Loop: 1}, api.ErrKind},
		{api.Stmt{Op: api.SAlloc, Name: "x", Kind: api.C64, Exprs: exprs(constant(4096)), Kids: kids(0)}, api.OK},
		{api.Stmt{Op: api.SAlloc, Name: "x", Exprs: exprs(constant(4097)), Kids: kids(0)}, api.ErrRange},
		{api.Stmt{Op: api.SAlloc, Name: "x", Exprs: exprs(zero), Kids: kids(0)}, api.ErrRange},
		{api.Stmt{Op: api.SAlloc, Name: "x", Exprs: exprs(append(constant(1), append(constant(1), api.Node{Op: api.EAdd, Kind: api.I32, Lanes: 1, Kids: kids(0, 1)})...)), Kids: kids(0)}, api.ErrForm},
		{api.Stmt{Op: api.SAlloc, Name: "x", Exprs: exprs(yes), Kids: kids(0)}, api.ErrType},
		{api.Stmt{Op: api.SStore, Name: "x", Exprs: exprs(zero), Kids: kids(0)}, api.ErrShape},
		{api.Stmt{Op: api.SStore, Name: "x", Exprs: exprs(zero, zero, yes, yes)}, api.ErrShape},
		{api.Stmt{Op: api.SStore, Name: "x", Exprs: exprs(yes, zero)}, api.ErrType},
		{api.Stmt{Op: api.SStore, Name: "x", Exprs: exprs(zero, yes, zero)}, api.ErrType},
		{api.Stmt{Op: api.SStore, Name: "x", Exprs: exprs(spread(zero, 2), spread(yes, 3))}, api.ErrVector},
		{api.Stmt{Op: api.SStore, Name: "x", Exprs: exprs(spread(zero, 2), spread(yes, 2), yes)}, api.ErrVector},
		{api.Stmt{Op: api.SIf, Name: "x"}, api.ErrName},
		{api.Stmt{Op: api.SIf, Exprs: exprs(yes)}, api.ErrShape},
		{api.Stmt{Op: api.SIf, Exprs: exprs(zero), Kids: kids(0)}, api.ErrType},
		{api.Stmt{Op: api.SIf, Exprs: exprs(spread(yes, 2)), Kids: kids(0)}, api.ErrVector},
		{api.Stmt{Op: api.SIf, Exprs: exprs(yes), Kids: kids(0)}, api.OK},
		{api.Stmt{Op: api.SIf, Exprs: exprs(yes), Kids: kids(0, 0, 0)}, api.ErrShape},
		{api.Stmt{Op: api.SLet, Name: "x", Exprs: exprs(yes), Kids: kids(0)}, api.ErrType},
		{api.Stmt{Op: api.SLet, Name: "x", Exprs: exprs(spread(zero, 2)), Kids: kids(0)}, api.ErrVector},
		{api.Stmt{Op: api.SLet, Name: "x", Exprs: exprs(zero, zero), Kids: kids(0)}, api.ErrShape},
		{api.Stmt{Op: api.SAssert, Name: "x", Exprs: exprs(yes), Kids: kids(0)}, api.ErrShape},
		{api.Stmt{Op: api.SAssert, Name: "x", Exprs: exprs(zero)}, api.ErrType},
		{api.Stmt{Op: api.SAssert, Name: "x", Exprs: exprs(spread(yes, 2))}, api.ErrVector},
		{api.Stmt{Op: api.SAssert, Exprs: exprs(yes)}, api.ErrName},
		{api.Stmt{Op: api.SMark, Name: "x", Kids: kids()}, api.ErrShape},
		{api.Stmt{Op: api.SMark, Name: "x", Loop: 1, Kids: kids(0)}, api.ErrKind},
		{api.Stmt{Op: api.SMark, Name: "x", Kids: kids(0)}, api.OK},
		{api.Stmt{Op: api.SCopy, Name: "x", Loop: 2}, api.ErrKind},
		{api.Stmt{Op: api.SCopy, Name: "x", Kids: kids(0)}, api.ErrShape},
		{api.Stmt{Op: api.SCopy}, api.ErrName},
	} {
		p := api.Program{Stmts: []api.Stmt{{Op: api.SBlock}, x.s}}
		at, err := loop.Check(p)
		want := 1
		if x.err == api.OK {
			want = 0
		}
		if at != want || err != x.err {
			t.Error(i, at, err, "for", x.s)
		}
	}
}

// TestScopes has what a statement may have wrong by what is around it.
func TestScopes(t *testing.T) {
	for i, x := range []struct {
		from, to string // statement 1 of the program is the one from whose text another one is made
		s        string
		at       int
		err      api.Errno
	}{
		{"y", "x", "for x ; 0 ; 4 {\n  for y ; 0 ; 4 {\n    block {\n    }\n  }\n}\n", 1, api.ErrTwice},
		{"y", "a", "let y ; 4 {\n  block {\n  }\n}\n", 1, api.ErrTwice},
		{"y", "k", "alloc y u8 4 {\n  block {\n  }\n}\n", 1, api.ErrTwice},
		{"y", "out", "alloc y u8 4 {\n  block {\n  }\n}\n", 1, api.ErrTwice},
		{"y", "x", "let x ; 0 {\n  alloc y u8 4 {\n    block {\n    }\n  }\n}\n", 1, api.ErrTwice},
		{"m", "x", "let x ; 0 {\n  mark m {\n    block {\n    }\n  }\n}\n", 0, api.OK},
		{"m", "a", "assert m 1 < 2\n", 0, api.OK},
		{"x", "y", "block {\n  let y ; 1 {\n    block {\n    }\n  }\n  let x ; 1 {\n    block {\n    }\n  }\n}\n", 0, api.OK},
		{"x", "y", "let x ; 4 {\n  store out ; x ; 1u8\n}\n", 0, api.ErrUnknown}, // the let alone is renamed
		{"a", "b", "store out ; 0 ; a{0}\n", 0, api.ErrUnknown},
		{"a", "k", "store out ; 0 ; a{0}\n", 0, api.ErrUnknown},
		{"k", "a", "store out ; 0 ; u8(@k)\n", 0, api.ErrUnknown},
		{"k", "q", "store out ; 0 ; u8(@k)\n", 0, api.ErrUnknown},
		{"out", "b", "store out ; 0 ; 1u8\n", 0, api.ErrUnknown},
		{"out", "k", "store out ; 0 ; 1u8\n", 0, api.ErrUnknown},
		{"out", "x", "let x ; 0 {\n  store out ; 0 ; 1u8\n}\n", 0, api.ErrUnknown},
		{"out", "b", "copy out to host\n", 0, api.ErrUnknown},
		{"out", "w", "copy out to host\n", 0, api.OK},
		{"out", "w", "store out ; 0 ; 1u8\n", 0, api.ErrType},
		{"a", "w", "store out ; 0 ; a{0}\n", 0, api.ErrType},
	} {
		p := parsed(t, "buffer a u8 0:6\nbuffer w i16 0:2\nbuffer out u8 0:4\nparam k i32 0 9\n"+x.s)
		for at := range p.Stmts {
			s := &p.Stmts[at]
			if s.Name == x.from {
				s.Name = x.to
			}
			for _, e := range s.Exprs {
				for k := range e {
					if e[k].Name == x.from && e[k].Op != api.EVar {
						e[k].Name = x.to
					}
				}
			}
		}
		if at, err := loop.Check(p); at != x.at || err != x.err {
			t.Error(i, at, err)
		}
	}
	// a variable is not known in its own loop's expressions, nor behind it
	p := parsed(t, head+"block {\n  for x ; 0 ; 4 {\n    block {\n    }\n  }\n  store out ; 0 ; 1u8\n}\n")
	x := api.Expr{{Op: api.EVar, Kind: api.I32, Lanes: 1, Name: "x"}}
	p.Stmts[1].Exprs[1] = x
	if at, err := loop.Check(p); at != 1 || err != api.ErrUnknown {
		t.Error("in its own loop", at, err)
	}
	p.Stmts[1].Exprs[1] = constant(4)
	p.Stmts[2].Exprs[0] = x
	if at, err := loop.Check(p); at != 2 || err != api.ErrUnknown {
		t.Error("behind its loop", at, err)
	}
	// calls, inputs; and kinds before buffers
	p.Stmts[2].Exprs[0] = api.Expr{{Op: api.EVar, Kind: api.I32, Lanes: 1, Name: "x"}, {Op: api.ECall, Kind: api.I32, Lanes: 1, Name: "f", Kids: []int{0}}}
	if at, err := loop.Check(p); at != 2 || err != api.ErrUnknown {
		t.Error("the first node", at, err)
	}
	p.Stmts[2].Exprs[0][0] = constant(0)[0]
	p.Stmts[2].Name = "b"
	for _, op := range []int{api.ECall, api.EImage} {
		p.Stmts[2].Exprs[0][1].Op = op
		if at, err := loop.Check(p); at != 2 || err != api.ErrKind {
			t.Error("calls", at, err)
		}
	}
	// of buffers with one name the outermost one counts, for what is inside of both
	p = parsed(t, head+"alloc b i32 4 {\n  alloc c i32 4 {\n    block {\n      store c ; 0 ; 1\n      store out ; 0 ; u8(c{0})\n    }\n  }\n}\n")
	p.Stmts[3].Name, p.Stmts[3].Kind = "b", api.I16
	p.Stmts[0].Name, p.Stmts[1].Exprs[1][1].Name = "b", "b"
	if at, err := loop.Check(p); at != 3 || err != api.ErrTwice {
		t.Error("the outer one's kind", at, err)
	}
	p.Stmts[3].Kind, p.Stmts[4].Kind = api.I32, api.I16
	if at, err := loop.Check(p); at != 0 || err != api.ErrType {
		t.Error("the outer one's kind", at, err)
	}
	p.Stmts[0].Exprs[1] = value(api.I16, 1)
	if at, err := loop.Check(p); at != 1 || err != api.ErrType {
		t.Error("the outer one's kind in a load", at, err)
	}
}

// TestLevels has what loops may not be in one another.
func TestLevels(t *testing.T) {
	nested := func(words ...string) string {
		s, end := "", ""
		for i, w := range words {
			indent := strings.Repeat("  ", i)
			v := fmt.Sprint("v", i)
			switch w {
			case "alloc":
				s += indent + "alloc " + v + " u8 1 {\n"
			case "block":
				s += indent + "block {\n"
			default:
				s += indent + w + " " + v + " ; 0 ; 2 {\n"
			}
			end = indent + "}\n" + end
		}
		indent := strings.Repeat("  ", len(words))
		return s + indent + "block {\n" + indent + "}\n" + end
	}
	words := []string{"for", "unrolled", "vector", "tasks", "grid", "lane"}
	for i, x := range []struct {
		words string
		at    int // counted from the innermost one on
		err   api.Errno
	}{
		{"for unrolled vector", 0, api.OK}, {"vector for unrolled", 0, api.OK}, {"tasks grid lane vector", 0, api.OK}, {"grid tasks lane for", 0, api.OK},
		{"grid for block lane lane", 0, api.OK}, {"tasks tasks vector", 0, api.OK}, {"alloc vector", 0, api.OK},
		{"vector vector", 2, api.ErrLevel}, {"vector block tasks", 3, api.ErrLevel}, {"vector grid", 2, api.ErrLevel}, {"vector for alloc", 3, api.ErrLevel},
		{"vector lane", 1, api.ErrLevel}, {"lane", 1, api.ErrLevel}, {"lane grid", 2, api.ErrLevel}, {"tasks lane", 1, api.ErrLevel},
		{"grid grid", 1, api.ErrLevel}, {"grid for tasks grid", 1, api.ErrLevel},
	} {
		// all loops of the text are serial, since it would not be read otherwise
		l := strings.Fields(x.words)
		text := nested(l...)
		for _, w := range words[1:] {
			text = strings.ReplaceAll(text, w+" v", "for v")
		}
		p := parsed(t, head+text)
		for k, w := range l {
			if at := slices.Index(words, w); at >= 0 {
				p.Stmts[len(p.Stmts)-1-k].Loop = at
			}
		}
		if at, err := loop.Check(p); at != x.at || err != x.err {
			t.Error(i, x.words, at, err)
		}
	}
	deep := func(n int) api.Program {
		p := api.Program{Stmts: []api.Stmt{{Op: api.SBlock}}}
		for i := range n {
			p.Stmts = append(p.Stmts, api.Stmt{Op: api.SFor, Name: fmt.Sprint("v", i), Exprs: []api.Expr{constant(0), constant(1)}, Kids: []int{i}})
		}
		return p
	}
	if at, err := loop.Check(deep(24)); at != 0 || err != api.OK {
		t.Error("24 loops", at, err)
	}
	if at, err := loop.Check(deep(26)); at != 1 || err != api.ErrLevel {
		t.Error("26 loops", at, err)
	}
	if n, err := loop.Depth(deep(24)); n != 24 || err != api.OK {
		t.Error("Depth", n, err)
	}
}

// TestJudged compares Check with what the document says in other words, for programs in which something may be wrong.
func TestJudged(t *testing.T) {
	t.Parallel()
	seen := map[string]int{}
	for seed := range int64(9000) {
		m := maker(seed)
		p := m.SpoiltProgram(m.Program())
		want, wantErr := judge(p)
		if at, err := loop.Check(p); at != want || err != wantErr {
			t.Fatal(seed, at, err, "not", want, wantErr)
		}
		seen[fmt.Sprint(wantErr, want < 0)]++
	}
	for _, what := range []api.Errno{api.OK, api.ErrForm, api.ErrShape, api.ErrRange, api.ErrName, api.ErrTwice, api.ErrUnknown, api.ErrOrder, api.ErrKind, api.ErrType, api.ErrVector, api.ErrLevel, api.ErrEmpty} {
		if seen[fmt.Sprint(what, false)] < 15 {
			t.Error("rare", what, seen)
		}
	}
}

// TestParts compares the parts of programs with what they are in other words.
func TestParts(t *testing.T) {
	t.Parallel()
	for seed := range int64(400) {
		p := maker(seed).Program()
		var counts [api.Stmts]int
		depth := 0
		for at, s := range p.Stmts {
			counts[s.Op]++
			around := above(p.Stmts, at)
			parent, loops := -1, 0
			var variables, buffers []string
			for _, b := range p.Buffers {
				buffers = append(buffers, b.Name)
			}
			for _, up := range around {
				parent = up
				switch x := p.Stmts[up]; x.Op {
				case api.SFor:
					loops++
					variables = append(variables, x.Name)
				case api.SLet:
					variables = append(variables, x.Name)
				case api.SAlloc:
					buffers = append(buffers, x.Name)
				}
			}
			if s.Op == api.SFor {
				depth = max(depth, loops+1)
			}
			first, err1 := loop.First(p, at)
			up, err2 := loop.Parent(p, at)
			knownVariables, knownBuffers, err3 := loop.Known(p, at)
			if first != members(p.Stmts, at)[0] || up != parent || !slices.Equal(knownVariables, variables) || !slices.Equal(knownBuffers, buffers) || err1+err2+err3 != api.OK {
				t.Fatal(seed, at, first, up, knownVariables, knownBuffers)
			}
		}
		n, err1 := loop.Depth(p)
		l, err2 := loop.Counts(p)
		if n != depth || !slices.Equal(l, counts[:]) || err1+err2 != api.OK {
			t.Fatal(seed, n, l, "not", depth, counts)
		}
		checkAccesses(t, seed, p)
	}
}

// checkAccesses compares the stores to names and the loads from them with what they are.
func checkAccesses(t *testing.T, seed int64, p api.Program) {
	t.Helper()
	for _, name := range sample.Names(p) {
		isBuffer := slices.ContainsFunc(p.Buffers, func(b api.Buffer) bool { return b.Name == name })
		var stores, loads []int
		for at, s := range p.Stmts {
			isBuffer = isBuffer || s.Op == api.SAlloc && s.Name == name
			if s.Op == api.SStore && s.Name == name {
				stores = append(stores, at)
			}
			loaded := false
			for _, e := range s.Exprs {
				for _, n := range e {
					loaded = loaded || n.Op == api.ELoad && n.Name == name
				}
			}
			if loaded {
				loads = append(loads, at)
			}
		}
		want := api.ErrUnknown
		if isBuffer {
			want = api.OK
		}
		s, err1 := loop.Stores(p, name)
		l, err2 := loop.Loads(p, name)
		if err1 != want || err2 != want || want == api.OK && !(slices.Equal(s, stores) && slices.Equal(l, loads)) || want != api.OK && len(s)+len(l) > 0 {
			t.Fatal(seed, name, s, l, err1, err2)
		}
	}
}
