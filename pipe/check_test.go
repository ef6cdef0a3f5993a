package pipe_test

import (
	"fmt"
	"math"
	"math/rand"
	"slices"
	"strings"
	"testing"

	"halation/api"
	"halation/expr"
	"halation/pipe"
)

// Promise P5.1.

var none = pipe.Place{Func: -1, Stage: -1, Part: -1}

// change is what makes a pipeline wrong.
type change func(p *api.Pipeline)

// headErrors are changes of the larger example with errors before its functions. Each one has a second error that
// comes later.
func headErrors() map[api.Errno][]change {
	long := strings.Repeat("n", api.MaxName+1)
	input := func(in api.Input) change { return func(p *api.Pipeline) { p.Inputs[1], p.Params[0].Name = in, "9" } }
	param := func(x api.Param) change { return func(p *api.Pipeline) { p.Params[1], p.Funcs = x, nil } }
	return map[api.Errno][]change{
		api.ErrName: {
			func(p *api.Pipeline) { p.Name, p.Inputs = "", make([]api.Input, 5) }, func(p *api.Pipeline) { p.Name = long }, func(p *api.Pipeline) { p.Name = "a b" },
			input(api.Input{Name: "1", Kind: 11, Dims: 9}), input(api.Input{Name: long}), param(api.Param{Name: "", Kind: 11}), param(api.Param{Name: "é"}),
		},
		api.ErrMany: {
			func(p *api.Pipeline) { p.Inputs = make([]api.Input, 5) }, func(p *api.Pipeline) { p.Params, p.Funcs = make([]api.Param, 5), nil },
			func(p *api.Pipeline) { p.Funcs = make([]api.Func, 13) },
		},
		api.ErrTwice: {input(api.Input{Name: "a", Kind: 11}), param(api.Param{Name: "k", Kind: 11}), param(api.Param{Name: "a", Kind: 11}), param(api.Param{Name: "b", Low: 9})},
		api.ErrKind:  {input(api.Input{Name: "c", Kind: 11, Dims: 9}), input(api.Input{Name: "c", Kind: -1, Dims: 9}), param(api.Param{Name: "c", Kind: 11, Low: 9}), param(api.Param{Name: "c", Kind: -1}), param(api.Param{Name: "c", Kind: api.C64, Low: 1})},
		api.ErrDims:  {input(api.Input{Name: "c", Dims: 0}), input(api.Input{Name: "c", Dims: 4}), input(api.Input{Name: "c", Dims: -1})},
		api.ErrRange: {
			param(api.Param{Name: "c", Kind: api.Bool, High: 2}), param(api.Param{Name: "c", Kind: api.Bool, Low: -1}), param(api.Param{Name: "c", Kind: api.U8, High: 256}), param(api.Param{Name: "c", Kind: api.U8, Low: 256, High: -1}), param(api.Param{Name: "c", Kind: api.U16, High: 1 << 16}), param(api.Param{Name: "c", Kind: api.U32, High: 1 << 32}), param(api.Param{Name: "c", Kind: api.U64, Low: -1}), param(api.Param{Name: "c", Kind: api.I8, Low: -129}), param(api.Param{Name: "c", Kind: api.I8, High: 128}), param(api.Param{Name: "c", Kind: api.I16, High: 1 << 15}), param(api.Param{Name: "c", Kind: api.I32, High: 1 << 31}), param(api.Param{Name: "c", Kind: api.I32, Low: -1<<31 - 1}), param(api.Param{Name: "c", Kind: api.F32, High: 1<<24 + 1}), param(api.Param{Name: "c", Kind: api.F32, Low: -1<<24 - 1}),
		},
		api.ErrOrder: {param(api.Param{Name: "c", Kind: api.U8, Low: 4, High: 3}), param(api.Param{Name: "c", Kind: api.I64, Low: math.MaxInt64, High: math.MinInt64}), param(api.Param{Name: "c", Kind: api.Bool, Low: 1})},
		api.ErrEmpty: {func(p *api.Pipeline) { p.Funcs = nil }},
	}
}

func TestCheckHead(t *testing.T) {
	for want, l := range headErrors() {
		for i, f := range l {
			p := copied(larger())
			f(&p)
			if at, err := pipe.Check(p); at != none || err != want {
				t.Error("Check", want, i, at, err)
			}
		}
	}
	for i, x := range []api.Param{
		{Kind: api.Bool, Low: 0, High: 1}, {Kind: api.U8, Low: 255, High: 255}, {Kind: api.U64, High: math.MaxInt64}, {Kind: api.I64, Low: math.MinInt64, High: math.MaxInt64}, {Kind: api.F32, Low: -1 << 24, High: 1 << 24}, {Kind: api.I8, Low: -128, High: 127}, {Kind: api.U16, High: 1<<16 - 1}, {Kind: api.U32, High: 1<<32 - 1}, {Kind: api.I16, Low: -1 << 15, High: 1<<15 - 1}, {Kind: api.I32, Low: -1 << 31, High: 1<<31 - 1},
	} {
		p := copied(larger())
		x.Name = "more"
		p.Params = append(p.Params, x)
		if _, err := pipe.Check(p); err != api.OK {
			t.Error("a right parameter", i, err)
		}
	}
	full := api.Pipeline{Name: "f0"} // the pipeline's name is none of its names
	for i := range 4 {
		full.Inputs = append(full.Inputs, api.Input{Name: fmt.Sprint("in", i), Kind: api.C64, Dims: 1 + i%3})
		full.Params = append(full.Params, api.Param{Name: fmt.Sprint("p", i)})
	}
	for i := range 12 {
		full.Funcs = append(full.Funcs, api.Func{Name: fmt.Sprint("f", i), Args: []string{"in0", "p0", "f1"}, Kind: api.I32, Value: exprOf(full, "in0")})
	}
	if at, err := pipe.Check(full); err != api.OK || at != (pipe.Place{}) {
		t.Error("as many of all as there may be", at, err)
	}
}

func TestCheckFunctions(t *testing.T) {
	long := strings.Repeat("n", api.MaxName+1)
	at := func(f, stage, part int) pipe.Place { return pipe.Place{Func: f, Stage: stage, Part: part} }
	wrong := api.Update{Domain: make([]api.Axis, 3)}
	function := func(f func(fn *api.Func)) change { return func(p *api.Pipeline) { f(&p.Funcs[2]) } }
	first := func(f func(u *api.Update)) change { return func(p *api.Pipeline) { f(&p.Funcs[2].Updates[0]) } }
	value := func(s string) change { return func(p *api.Pipeline) { p.Funcs[2].Value = exprOf(*p, s) } }
	updated := func(s string) change { return func(p *api.Pipeline) { p.Funcs[2].Updates[0].Value = exprOf(*p, s) } }
	wrongNode := api.Expr{{Op: api.EVar, Kind: api.U8, Lanes: 1, Name: "x"}}
	for i, x := range []struct {
		change change
		at     pipe.Place
		e      api.Errno
	}{
		{function(func(f *api.Func) { f.Name, f.Args = "", nil }), at(2, -1, -1), api.ErrName}, {function(func(f *api.Func) { f.Name = long }), at(2, -1, -1), api.ErrName},
		{function(func(f *api.Func) { f.Name, f.Args = "g", nil }), at(2, -1, -1), api.ErrTwice}, {function(func(f *api.Func) { f.Name = "a" }), at(2, -1, -1), api.ErrTwice}, {function(func(f *api.Func) { f.Name = "on" }), at(2, -1, -1), api.ErrTwice}, {func(p *api.Pipeline) { p.Funcs[3].Name = "sum" }, at(3, -1, -1), api.ErrTwice}, {func(p *api.Pipeline) { p.Funcs[1].Name = "out" }, at(3, -1, -1), api.ErrTwice},
		{function(func(f *api.Func) { f.Args, f.Kind = nil, 11 }), at(2, -1, -1), api.ErrDims}, {function(func(f *api.Func) { f.Args = []string{"9", "y", "z", "w"} }), at(2, -1, -1), api.ErrDims},
		{function(func(f *api.Func) { f.Args, f.Kind = []string{"x", "9", "x"}, 11 }), at(2, -1, -1), api.ErrName}, {function(func(f *api.Func) { f.Args, f.Kind = []string{"x", "x", "9"}, 11 }), at(2, -1, -1), api.ErrTwice}, {function(func(f *api.Func) { f.Args = []string{"x", "y", "x"} }), at(2, -1, -1), api.ErrTwice},
		{function(func(f *api.Func) { f.Kind, f.Updates = 11, make([]api.Update, 4) }), at(2, -1, -1), api.ErrKind}, {function(func(f *api.Func) { f.Kind = -1 }), at(2, -1, -1), api.ErrKind}, {function(func(f *api.Func) { f.Updates, f.Value = make([]api.Update, 4), nil }), at(2, -1, -1), api.ErrMany},
		{function(func(f *api.Func) { f.Value, f.Updates[0] = nil, wrong }), at(2, 0, 0), api.ErrEmpty}, {function(func(f *api.Func) { f.Value = wrongNode }), at(2, 0, 0), api.ErrType}, {value("1u8"), at(2, 0, 0), api.ErrType}, {value("b.i32{x} == 1"), at(2, 0, 0), api.ErrType}, {value(strings.Repeat("x + ", 127) + "x"), at(0, 0, 0), api.OK},
		{value("q"), at(2, 0, 0), api.ErrUnknown}, {value("r"), at(2, 0, 0), api.ErrUnknown}, {value("@q.i32"), at(2, 0, 0), api.ErrUnknown}, {value("@a.i32"), at(2, 0, 0), api.ErrUnknown}, {value("@g.i32"), at(2, 0, 0), api.ErrUnknown}, {value("q.i32[x, x, x]"), at(2, 0, 0), api.ErrUnknown}, {value("g.i32[x]"), at(2, 0, 0), api.ErrUnknown}, {value("k.i32[x]"), at(2, 0, 0), api.ErrUnknown}, {value("q.i32(x)"), at(2, 0, 0), api.ErrUnknown}, {value("a.i32(x)"), at(2, 0, 0), api.ErrUnknown}, {value("k.i32(x)"), at(2, 0, 0), api.ErrUnknown}, {value("i32(out(x))"), at(2, 0, 0), api.ErrUnknown}, {value("i32(out.i8(x, y))"), at(2, 0, 0), api.ErrUnknown},
		{value("i32(@k.u8)"), at(2, 0, 0), api.ErrType}, {value("i32(b[x, y])"), at(2, 0, 0), api.ErrDims}, {value("a.i32[x]"), at(2, 0, 0), api.ErrDims}, {value("a.i32[x, y]"), at(2, 0, 0), api.ErrType}, {value("i32(g.u8(x))"), at(2, 0, 0), api.ErrDims}, {value("i32(g.u8(x, y))"), at(2, 0, 0), api.ErrType},
		{value("sum(x, y)"), at(2, 0, 0), api.ErrSelf}, {value("i32(sum.u8(x))"), at(2, 0, 0), api.ErrSelf},
		{value("b.i32{x}"), at(2, 0, 0), api.ErrKind}, {value("b.i32{q}"), at(2, 0, 0), api.ErrUnknown}, {value("reduce_add(b.i32{ramp(x, 1, 4)})"), at(2, 0, 0), api.ErrVector}, {value("reduce_add(broadcast(q, 4))"), at(2, 0, 0), api.ErrUnknown}, {value("shuffle(x, 0)"), at(2, 0, 0), api.ErrVector}, {value("shuffle(b.i32{x}, 0)"), at(2, 0, 0), api.ErrKind}, {value("reduce_add(ramp(x, 1, 4)) + q"), at(2, 0, 0), api.ErrVector}, {value("q + reduce_add(ramp(x, 1, 4))"), at(2, 0, 0), api.ErrUnknown}, {value("g(x) + q"), at(2, 0, 0), api.ErrDims}, {value("g(x, q)"), at(2, 0, 0), api.ErrUnknown}, {value("sum(x, y) + g(x)"), at(2, 0, 0), api.ErrSelf},
		{function(func(f *api.Func) { f.Value = exprOf(larger(), "ramp(x, 1, 2)") }), at(2, 0, 0), api.ErrVector}, {function(func(f *api.Func) { f.Value = exprOf(larger(), "broadcast(1u8, 2)") }), at(2, 0, 0), api.ErrType},
		{first(func(u *api.Update) { u.Domain, u.Left = append(u.Domain, axis("9", 0, 0)), nil }), at(2, 1, -1), api.ErrMany}, {first(func(u *api.Update) { u.Domain[0], u.Left = axis("9", 0, 0), nil }), at(2, 1, -1), api.ErrName}, {first(func(u *api.Update) { u.Domain[1] = axis(long, 0, 0) }), at(2, 1, -1), api.ErrName}, {first(func(u *api.Update) { u.Domain[1] = axis("r", 0, 0) }), at(2, 1, -1), api.ErrTwice}, {first(func(u *api.Update) { u.Domain[0] = axis("y", 0, 0) }), at(2, 1, -1), api.ErrTwice}, {first(func(u *api.Update) { u.Domain[1] = axis("x", 0, 0) }), at(2, 1, -1), api.ErrTwice},
		{first(func(u *api.Update) { u.Domain[0], u.Domain[1] = axis("r", 0, 0), axis("r", 0, 1) }), at(2, 1, -1), api.ErrRange}, {first(func(u *api.Update) { u.Domain[1], u.Left = axis("s", 0, 65), nil }), at(2, 1, -1), api.ErrRange}, {first(func(u *api.Update) { u.Domain[1] = axis("s", 0, -1) }), at(2, 1, -1), api.ErrRange}, {first(func(u *api.Update) { u.Domain[1] = axis("s", -api.MaxCoord-1, 1) }), at(2, 1, -1), api.ErrRange}, {first(func(u *api.Update) { u.Domain[1] = axis("s", api.MaxCoord, 2) }), at(2, 1, -1), api.ErrRange}, {first(func(u *api.Update) { u.Domain[1] = axis("s", math.MaxInt, 64) }), at(2, 1, -1), api.ErrRange}, {first(func(u *api.Update) { u.Domain[1] = axis("s", math.MinInt, 1) }), at(2, 1, -1), api.ErrRange}, {first(func(u *api.Update) { u.Domain[1] = axis("s", 0, math.MinInt) }), at(2, 1, -1), api.ErrRange}, {first(func(u *api.Update) { u.Domain[1] = axis("s", 0, math.MaxInt) }), at(2, 1, -1), api.ErrRange}, {first(func(u *api.Update) { u.Domain[1] = axis("s", api.MaxCoord, 1) }), at(0, 0, 0), api.OK}, {first(func(u *api.Update) { u.Domain[1] = axis("s", -api.MaxCoord, 64) }), at(0, 0, 0), api.OK},
		{first(func(u *api.Update) { u.Left, u.Value = nil, nil }), at(2, 1, -1), api.ErrDims}, {first(func(u *api.Update) { u.Left = u.Left[:1] }), at(2, 1, -1), api.ErrDims}, {first(func(u *api.Update) { u.Left = append(u.Left, nil) }), at(2, 1, -1), api.ErrDims}, {first(func(u *api.Update) {
			u.Domain, u.Value, u.Where, u.Left = nil, wrongNode, nil, []api.Expr{{wrongNode[0]}, nil}
		}), at(2, 1, 1), api.ErrType},
		{first(func(u *api.Update) { u.Left[1], u.Value = nil, nil }), at(2, 1, 2), api.ErrEmpty}, {first(func(u *api.Update) { u.Left[1], u.Value = exprOf(larger(), "1u8"), nil }), at(2, 1, 2), api.ErrType}, {first(func(u *api.Update) { u.Left[1], u.Value = exprOf(larger(), "y + 0"), nil }), at(2, 1, 2), api.ErrUnknown}, {first(func(u *api.Update) { u.Left[0], u.Left[1] = exprOf(larger(), "y"), exprOf(larger(), "x") }), at(2, 1, 1), api.ErrUnknown}, {first(func(u *api.Update) { u.Left[0] = exprOf(larger(), "r") }), at(2, 1, 0), api.ErrUnknown},
		{first(func(u *api.Update) { u.Value, u.Where = nil, nil }), at(2, 1, 0), api.ErrEmpty}, {first(func(u *api.Update) { u.Where = exprOf(larger(), "x") }), at(2, 1, 4), api.ErrType}, {first(func(u *api.Update) { u.Where = exprOf(larger(), "y == 0") }), at(2, 1, 4), api.ErrUnknown}, {first(func(u *api.Update) { u.Where = wrongNode }), at(2, 1, 4), api.ErrType}, {first(func(u *api.Update) { u.Where = exprOf(larger(), "sum(x, r) == sum(y, r)") }), at(2, 1, 4), api.ErrUnknown}, {first(func(u *api.Update) { u.Where = nil }), at(0, 0, 0), api.OK}, {first(func(u *api.Update) { u.Where = exprOf(larger(), "sum(x, r) == 0") }), at(0, 0, 0), api.OK}, {first(func(u *api.Update) { u.Left[1] = exprOf(larger(), "sum(x, r)") }), at(0, 0, 0), api.OK},
		{updated("y"), at(2, 1, 0), api.ErrUnknown}, {updated("1u8"), at(2, 1, 0), api.ErrType}, {updated("sum(x)"), at(2, 1, 0), api.ErrDims}, {updated("i32(sum.u8(r))"), at(2, 1, 0), api.ErrDims}, {updated("i32(sum.u8(r, r))"), at(2, 1, 0), api.ErrType}, {updated("sum(r, r)"), at(2, 1, 0), api.ErrSelf}, {updated("sum(x + 0, r)"), at(2, 1, 0), api.ErrSelf}, {updated("sum(x, sum(x, r))"), at(0, 0, 0), api.OK}, {updated("sum(sum(x, r), r)"), at(2, 1, 0), api.ErrSelf}, {updated("i32(out(x))"), at(2, 1, 0), api.ErrUnknown}, {updated("sum(x, 5) + g(r, s)"), at(0, 0, 0), api.OK}, {updated("b.i32{x}"), at(2, 1, 0), api.ErrKind},
		{func(p *api.Pipeline) { p.Funcs[2].Updates[1].Value = exprOf(*p, "s") }, at(2, 2, 0), api.ErrUnknown}, {func(p *api.Pipeline) { p.Funcs[2].Updates[1].Value = exprOf(*p, "sum(r, r)") }, at(2, 2, 0), api.ErrSelf}, {func(p *api.Pipeline) { p.Funcs[2].Updates[1] = wrong }, at(2, 2, -1), api.ErrMany}, {func(p *api.Pipeline) { p.Funcs[3].Value = exprOf(*p, "u8(idle(y)) + u8(x)") }, at(3, 0, 0), api.ErrUnknown},
		{func(p *api.Pipeline) { p.Funcs[0], p.Funcs[2] = p.Funcs[2], p.Funcs[0] }, at(0, 0, 0), api.ErrUnknown},
	} {
		p := copied(larger())
		x.change(&p)
		if place, err := pipe.Check(p); place != x.at || err != x.e {
			t.Error("Check", i, place, err, x.at, x.e)
		}
	}
}

func TestCheckFull(t *testing.T) {
	p := larger()
	p.Funcs[2].Updates = append(p.Funcs[2].Updates, p.Funcs[2].Updates[1])
	if at, err := pipe.Check(p); err != api.OK || at != (pipe.Place{}) {
		t.Error("three updates", at, err)
	}
	room := []string{"x", "y", "kept"} // a list of arguments with room behind it
	p.Funcs[2].Args = room[:2]
	if _, err := pipe.Check(p); err != api.OK || room[2] != "kept" {
		t.Error("a changed argument", err, room)
	}
}

// firstError is Check in the document's words, sentence by sentence.
func firstError(p api.Pipeline) (out pipe.Place, err api.Errno) {
	defer func() {
		if found, ok := recover().(api.Errno); ok {
			err = found
		}
	}()
	fail := func(wrong bool, e api.Errno) {
		if wrong {
			panic(e)
		}
	}
	out = none
	seen := map[string]string{}
	addName := func(name, sort string) {
		fail(!expr.IsName(name), api.ErrName)
		fail(seen[name] != "", api.ErrTwice)
		seen[name] = sort
	}
	isKind := func(k int) bool { return k >= 0 && k < api.Kinds }
	fail(!expr.IsName(p.Name), api.ErrName)
	fail(len(p.Inputs) > 4, api.ErrMany)
	for _, in := range p.Inputs {
		addName(in.Name, "input")
		fail(!isKind(in.Kind), api.ErrKind)
		fail(in.Dims < 1 || in.Dims > 3, api.ErrDims)
	}
	fail(len(p.Params) > 4, api.ErrMany)
	for _, x := range p.Params {
		addName(x.Name, "param")
		fail(!isKind(x.Kind) || x.Kind == api.C64, api.ErrKind)
		fail(x.Kind == api.Bool && (x.Low < 0 || x.High > 1), api.ErrRange)
		fail(x.Low > x.High, api.ErrOrder)
	}
	fail(len(p.Funcs) == 0, api.ErrEmpty)
	fail(len(p.Funcs) > 12, api.ErrMany)
	for i, f := range p.Funcs {
		out = pipe.Place{Func: i, Stage: -1, Part: -1}
		addName(f.Name, "func")
		fail(len(f.Args) < 1 || len(f.Args) > 3, api.ErrDims)
		for j, arg := range f.Args {
			fail(!expr.IsName(arg), api.ErrName)
			fail(slices.Contains(f.Args[:j], arg), api.ErrTwice)
		}
		fail(!isKind(f.Kind), api.ErrKind)
		fail(len(f.Updates) > 3, api.ErrMany)
		for k := range len(f.Updates) + 1 {
			checkStage(p, i, k, &out, fail)
		}
	}
	return pipe.Place{}, api.OK
}

func checkStage(p api.Pipeline, i, k int, out *pipe.Place, fail func(bool, api.Errno)) {
	f := p.Funcs[i]
	*out = pipe.Place{Func: i, Stage: k, Part: -1}
	pure := func(d int) bool {
		if k == 0 {
			return true
		}
		left := f.Updates[k-1].Left[d]
		return len(left) == 1 && left[0].Op == api.EVar && left[0].Name == f.Args[d]
	}
	allowed := func() []string {
		var l []string
		for d, arg := range f.Args {
			if pure(d) {
				l = append(l, arg)
			}
		}
		if k > 0 {
			for _, a := range f.Updates[k-1].Domain {
				l = append(l, a.Name)
			}
		}
		return l
	}
	checkExpr := func(part int, e api.Expr, kind int) {
		out.Part = part
		fail(expr.Check(e) != api.OK, expr.Check(e))
		fail(e[len(e)-1].Kind != kind, api.ErrType)
		for _, n := range e {
			fail(n.Lanes != 1 || n.Op >= api.ERamp, api.ErrVector)
			fail(n.Op == api.ELoad, api.ErrKind)
			fail(n.Op == api.EVar && !slices.Contains(allowed(), n.Name), api.ErrUnknown)
			if n.Op == api.EParam {
				at := slices.IndexFunc(p.Params, func(x api.Param) bool { return x.Name == n.Name })
				fail(at < 0, api.ErrUnknown)
				fail(p.Params[at].Kind != n.Kind, api.ErrType)
			}
			if n.Op == api.EImage {
				at := slices.IndexFunc(p.Inputs, func(x api.Input) bool { return x.Name == n.Name })
				fail(at < 0, api.ErrUnknown)
				fail(p.Inputs[at].Dims != len(n.Kids), api.ErrDims)
				fail(p.Inputs[at].Kind != n.Kind, api.ErrType)
			}
			if n.Op == api.ECall {
				at := slices.IndexFunc(p.Funcs, func(x api.Func) bool { return x.Name == n.Name })
				fail(at < 0 || at > i, api.ErrUnknown)
				fail(at == i && k == 0, api.ErrSelf)
				fail(len(p.Funcs[at].Args) != len(n.Kids), api.ErrDims)
				fail(p.Funcs[at].Kind != n.Kind, api.ErrType)
				for d, arg := range f.Args {
					if at == i && pure(d) {
						kid := e[n.Kids[d]]
						fail(kid.Op != api.EVar || kid.Name != arg, api.ErrSelf)
					}
				}
			}
		}
	}
	if k == 0 {
		checkExpr(0, f.Value, f.Kind)
		return
	}
	u := f.Updates[k-1]
	fail(len(u.Domain) > 2, api.ErrMany)
	for j, a := range u.Domain {
		fail(!expr.IsName(a.Name), api.ErrName)
		fail(slices.Contains(f.Args, a.Name) || slices.ContainsFunc(u.Domain[:j], func(b api.Axis) bool { return a.Name == b.Name }), api.ErrTwice)
		fail(a.Extent < 1 || a.Extent > 64 || a.Min < -1<<20 || a.Min+a.Extent-1 > 1<<20, api.ErrRange)
	}
	fail(len(u.Left) != len(f.Args), api.ErrDims)
	for d, e := range u.Left {
		checkExpr(1+d, e, api.I32)
	}
	checkExpr(0, u.Value, f.Kind)
	if len(u.Where) > 0 {
		checkExpr(4, u.Where, api.Bool)
	}
}

func variable(name string) api.Expr {
	return api.Expr{{Op: api.EVar, Kind: api.I32, Lanes: 1, Name: name}}
}

// spoil changes something of a pipeline, which is then mostly wrong.
func spoil(r *rand.Rand, p *api.Pipeline) {
	name := func() string { return []string{"x", "y", "f0", "f1", "f2", "in0", "p0", "r0", "9", ""}[r.Intn(10)] }
	f := &p.Funcs[r.Intn(len(p.Funcs))]
	spoilExpr := func(e api.Expr) {
		if len(e) == 0 {
			return
		}
		n := &e[r.Intn(len(e))]
		switch r.Intn(8) {
		case 0:
			n.Kind = r.Intn(api.Kinds + 1)
		case 1:
			n.Lanes = r.Intn(3)
		case 2:
			n.Kids = slices.Clone(n.Kids[:len(n.Kids)/2])
		case 3:
			n.Op = r.Intn(api.Ops + 1)
		default:
			if n.Name != "" {
				n.Name = name()
			}
		}
	}
	switch choice := r.Intn(16); {
	case choice == 0:
		f.Name = name()
	case choice == 1:
		f.Args = f.Args[:r.Intn(len(f.Args)+1)]
	case choice == 2:
		f.Args = append(f.Args, name())
	case choice == 3:
		f.Kind = r.Intn(api.Kinds + 1)
	case choice == 4:
		other := &p.Funcs[r.Intn(len(p.Funcs))]
		*f, *other = *other, *f
	case choice == 5:
		f.Updates = append(f.Updates, f.Updates...)
	case choice == 6 && len(p.Inputs) > 0:
		p.Inputs[0] = api.Input{Name: name(), Kind: r.Intn(api.Kinds + 1), Dims: r.Intn(5)}
	case choice == 7 && len(p.Params) > 0:
		p.Params[0] = api.Param{Name: name(), Kind: []int{api.Bool, api.I32, api.C64, 11}[r.Intn(4)], Low: int64(r.Intn(4) - 2), High: 1}
	case choice <= 9 || len(f.Updates) == 0:
		spoilExpr(f.Value)
	default:
		spoilUpdate(r, &f.Updates[r.Intn(len(f.Updates))], name, spoilExpr)
	}
}

func spoilUpdate(r *rand.Rand, u *api.Update, name func() string, spoilExpr func(api.Expr)) {
	switch choice := r.Intn(7); {
	case choice == 0:
		u.Domain = append(u.Domain, axis(name(), 0, r.Intn(70)-1))
	case choice == 1 && len(u.Domain) > 0:
		u.Domain[0] = axis(name(), []int{0, 1 << 20, -1 << 20, 1<<20 - 1, -1<<20 - 1}[r.Intn(5)], 1+r.Intn(2))
	case choice == 2:
		u.Left = u.Left[:max(0, len(u.Left)-1)]
	case choice == 3 && len(u.Left) > 0:
		u.Left[0] = variable(name())
	case choice == 4 && len(u.Left) > 0:
		spoilExpr(u.Left[r.Intn(len(u.Left))])
	case choice == 5:
		spoilExpr(u.Where)
	default:
		spoilExpr(u.Value)
	}
}

// TestCheckMade compares with the document's words on pipelines of which something has been changed.
func TestCheckMade(t *testing.T) {
	seen := map[api.Errno]int{}
	var right []api.Pipeline
	for seed := range int64(madePipelines) {
		right = append(right, makePipeline(seed))
	}
	for seed := range int64(20 * madePipelines) {
		p := copied(right[seed%madePipelines])
		r := rand.New(rand.NewSource(seed))
		for range 1 + r.Intn(2) {
			spoil(r, &p)
			if len(p.Funcs) == 0 {
				break
			}
		}
		kept := copied(p)
		want, wantErr := firstError(p)
		at, err := pipe.Check(p)
		if at != want || err != wantErr {
			t.Fatal("Check", seed, at, err, want, wantErr, p)
		}
		seen[err]++
		checkErrors(t, p, err)
		if !equal(p, kept) {
			t.Fatal("a changed argument", seed)
		}
	}
	for _, err := range []api.Errno{api.OK, api.ErrName, api.ErrTwice, api.ErrKind, api.ErrDims, api.ErrUnknown, api.ErrType, api.ErrVector, api.ErrRange, api.ErrMany, api.ErrOrder, api.ErrSelf, api.ErrShape, api.ErrForm} {
		if seen[err] < 10 {
			t.Error("an error is rare", err, seen)
		}
	}
}

// checkErrors looks at the error of a pipeline that all other functions return first.
func checkErrors(t *testing.T, p api.Pipeline, err api.Errno) {
	t.Helper()
	if err == api.OK {
		return
	}
	var got [14]api.Errno
	_, _, got[0] = pipe.Find(p, "")
	_, got[1] = pipe.Pure(p, -1, -1)
	_, _, got[2] = pipe.Vars(p, -1, -1)
	_, got[3] = pipe.Uses(p, -1)
	_, got[4] = pipe.Users(p, -1)
	_, got[5] = pipe.Images(p, -1)
	_, got[6] = pipe.Dead(p)
	_, got[7] = pipe.Prune(p)
	_, got[8] = pipe.Renamed(p, "", "")
	_, got[9] = pipe.Inline(p, -1)
	_, got[10] = pipe.Inlined(p, make([]string, 13))
	_, got[11] = pipe.Put(p, make([]api.Value, 5))
	_, got[12] = pipe.Size(p)
	_, got[13] = pipe.Check(p)
	for i, e := range got {
		if e != err {
			t.Fatal("not the pipeline's error", i, e, err)
		}
	}
}

func TestFind(t *testing.T) {
	p := larger()
	for i, x := range []struct {
		name     string
		sort, at int
		e        api.Errno
	}{
		{"a", pipe.AnInput, 0, api.OK}, {"b", pipe.AnInput, 1, api.OK}, {"k", pipe.AParam, 0, api.OK}, {"on", pipe.AParam, 1, api.OK}, {"g", pipe.AFunc, 0, api.OK}, {"out", pipe.AFunc, 3, api.OK},
		{"larger", 0, 0, api.ErrUnknown}, {"x", 0, 0, api.ErrUnknown}, {"r", 0, 0, api.ErrUnknown}, {"", 0, 0, api.ErrName}, {"9", 0, 0, api.ErrName}, {strings.Repeat("n", 25), 0, 0, api.ErrName},
	} {
		sort, at, err := pipe.Find(p, x.name)
		if sort != x.sort || at != x.at || err != x.e {
			t.Error("Find", i, sort, at, err)
		}
	}
}

func TestPureAndVars(t *testing.T) {
	for i, x := range []struct {
		p        api.Pipeline
		f, stage int
		pure     []bool
		vars     []string
		axes     int
		e        api.Errno
	}{
		{example(), 1, 0, []bool{true}, []string{"x"}, 0, api.OK}, {example(), 1, 1, []bool{true}, []string{"r", "x"}, 1, api.OK}, {larger(), 0, 0, []bool{true, true}, []string{"x", "y"}, 0, api.OK}, {larger(), 2, 1, []bool{true, false}, []string{"r", "s", "x"}, 2, api.OK}, {larger(), 2, 2, []bool{false, true}, []string{"r", "y"}, 1, api.OK}, {larger(), 3, 0, []bool{true}, []string{"y"}, 0, api.OK},
		{larger(), 4, 0, nil, nil, 0, api.ErrUnknown}, {larger(), -1, 0, nil, nil, 0, api.ErrUnknown}, {larger(), 2, 3, nil, nil, 0, api.ErrUnknown}, {larger(), 2, -1, nil, nil, 0, api.ErrUnknown}, {larger(), 0, 1, nil, nil, 0, api.ErrUnknown}, {larger(), math.MinInt, 0, nil, nil, 0, api.ErrUnknown}, {larger(), 0, math.MaxInt, nil, nil, 0, api.ErrUnknown},
	} {
		pure, e1 := pipe.Pure(x.p, x.f, x.stage)
		vars, axes, e2 := pipe.Vars(x.p, x.f, x.stage)
		if !slices.Equal(pure, x.pure) || !slices.Equal(vars, x.vars) || axes != x.axes || e1 != x.e || e2 != x.e {
			t.Error("Pure, Vars", i, pure, vars, axes, e1, e2)
		}
	}
	p := larger()
	vars, _, _ := pipe.Vars(p, 0, 0)
	vars[0] = "q"
	if p.Funcs[0].Args[0] != "x" {
		t.Error("Vars shares memory")
	}
}
