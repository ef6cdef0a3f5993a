package mean_test

import (
	"fmt"
	"slices"
	"testing"

	"halation/api"
	"halation/expr"
	"halation/image"
	"halation/lang"
	"halation/mean"
)

// exprOf returns the expression of a text with the names of a pipeline.
func exprOf(p api.Pipeline, s string) api.Expr {
	if s == "" {
		return nil
	}
	var decls []lang.Decl
	for _, in := range p.Inputs {
		decls = append(decls, lang.Decl{Op: api.EImage, Name: in.Name, Kind: in.Kind})
	}
	for _, x := range p.Params {
		decls = append(decls, lang.Decl{Op: api.EParam, Name: x.Name, Kind: x.Kind})
	}
	for _, f := range p.Funcs {
		decls = append(decls, lang.Decl{Op: api.ECall, Name: f.Name, Kind: f.Kind})
	}
	e, place, err := lang.Parse(s, decls)
	if err != api.OK {
		panic(fmt.Sprintln(s, place, err))
	}
	return e
}

// add adds a function with a text for its value.
func add(p *api.Pipeline, name string, args []string, kind int, value string) {
	p.Funcs = append(p.Funcs, api.Func{Name: name, Args: args, Kind: kind, Value: exprOf(*p, value)})
}

// updated adds an update to the last function.
func updated(p *api.Pipeline, left []string, value, where string, domain ...api.Axis) {
	u := api.Update{Value: exprOf(*p, value), Where: exprOf(*p, where), Domain: domain}
	for _, s := range left {
		u.Left = append(u.Left, exprOf(*p, s))
	}
	f := &p.Funcs[len(p.Funcs)-1]
	f.Updates = append(f.Updates, u)
}

func axis(name string, least, extent int) api.Axis {
	return api.Axis{Name: name, Range: api.Range{Min: least, Extent: extent}}
}

// example returns the document's P, and what it is given.
func example() (api.Pipeline, api.Given) {
	p := api.Pipeline{Name: "p", Inputs: []api.Input{{Name: "a", Kind: api.U8, Dims: 1}}}
	add(&p, "f", []string{"x"}, api.U8, "a[x] + a[x + 1]")
	add(&p, "g", []string{"x"}, api.U8, "f(x)")
	updated(&p, []string{"r"}, "g(r - 1) + f(r)", "", axis("r", 1, 3))
	return p, api.Given{Images: []api.Image{dense(api.U8, api.Box{{Min: 0, Extent: 6}}, 1, 2, 3, 4, 5, 250)}}
}

func dense(kind int, b api.Box, data ...uint64) api.Image {
	im, err := image.Make(kind, b, data)
	if err != api.OK {
		panic(err)
	}
	return im
}

func read(name string, p ...int) mean.Read { return mean.Read{Name: name, Point: p} }

func equalReads(a, b []mean.Read) bool {
	return slices.EqualFunc(a, b, func(r, s mean.Read) bool { return r.Name == s.Name && slices.Equal(r.Point, s.Point) })
}

func TestExamples(t *testing.T) {
	p, g := example()
	for x, want := range []uint64{3, 5, 7, 9, 255} {
		if v, err := mean.At(p, g, "f", []int{x}); err != api.OK || v != (api.Value{Kind: api.U8, Bits: want}) {
			t.Error("f", x, v, err)
		}
		if v, err := mean.After(p, g, "g", 0, []int{x}); err != api.OK || v != (api.Value{Kind: api.U8, Bits: want}) {
			t.Error("g after stage 0", x, v, err)
		}
	}
	if v, err := mean.At(p, g, "f", []int{5}); err != api.ErrBounds || v != (api.Value{}) {
		t.Error("f outside", v, err)
	}
	for x, want := range []uint64{3, 8, 15, 24, 255} {
		if v, err := mean.After(p, g, "g", 1, []int{x}); err != api.OK || v != (api.Value{Kind: api.U8, Bits: want}) {
			t.Error("g", x, v, err)
		}
	}
	reads, err := mean.Reads(p, g, "g", []int{0})
	want := []mean.Read{read("a", 0), read("a", 1), read("a", 2), read("a", 3), read("a", 4), read("f", 0), read("f", 1), read("f", 2), read("f", 3)}
	if err != api.OK || !equalReads(reads, want) {
		t.Error("Reads", reads, err)
	}
	if n, err := mean.Work(p, g, api.Box{{Min: 0, Extent: 2}}); n != 9 || err != api.OK {
		t.Error("Work", n, err)
	}
	f, g1 := p.Funcs[0], p.Funcs[1]
	if l, err := mean.Pure(g1, 0); err != api.OK || !slices.Equal(l, []bool{false}) {
		t.Error("Pure", l, err)
	}
	x, r := exprOf(p, "x"), exprOf(p, "r")
	f.Args, f.Updates = []string{"x", "y"}, []api.Update{{Left: []api.Expr{x, r}}}
	if l, err := mean.Pure(f, 0); err != api.OK || !slices.Equal(l, []bool{true, false}) {
		t.Error("Pure", l, err)
	}
	l, err := mean.Domain([]api.Axis{axis("r", 0, 2), axis("s", 5, 2)})
	if err != api.OK || !slices.EqualFunc(l, [][]int{{0, 5}, {1, 5}, {0, 6}, {1, 6}}, slices.Equal) {
		t.Error("Domain", l, err)
	}
}

func TestPure(t *testing.T) {
	p := api.Pipeline{}
	e := func(s string) api.Expr { return exprOf(p, s) }
	f := api.Func{Args: []string{"x", "y", "z"}}
	for i, x := range []struct {
		left []api.Expr
		want []bool
		err  api.Errno
	}{
		{[]api.Expr{e("x"), e("y"), e("z")}, []bool{true, true, true}, api.OK},
		{[]api.Expr{e("y"), e("x"), e("z")}, []bool{false, false, true}, api.OK},
		{[]api.Expr{e("x + 0"), e("1"), e("r")}, []bool{false, false, false}, api.OK},
		{[]api.Expr{e("@x.i32"), e("y * 1"), e("z")}, []bool{false, false, true}, api.OK},
		{[]api.Expr{nil, {}, e("z")}, []bool{false, false, true}, api.OK},
		{[]api.Expr{append(e("1"), e("x")...), append(e("y"), e("y")...), e("z")}, []bool{false, false, true}, api.OK}, // two nodes, of no form
		{[]api.Expr{e("x"), e("y")}, nil, api.ErrShape},
		{[]api.Expr{e("x"), e("y"), e("z"), e("z")}, nil, api.ErrShape},
		{nil, nil, api.ErrShape},
	} {
		f.Updates = []api.Update{{}, {Left: x.left}}
		if l, err := mean.Pure(f, 1); err != x.err || !slices.Equal(l, x.want) {
			t.Error("Pure", i, l, err)
		}
	}
	for _, update := range []int{-1, 2, 1 << 62, -1 << 63} {
		if l, err := mean.Pure(f, update); err != api.ErrRange || l != nil {
			t.Error("Pure of no update", update, l, err)
		}
	}
	if l, err := mean.Pure(api.Func{Updates: make([]api.Update, 9)}, 8); err != api.OK || len(l) != 0 { // any form
		t.Error("Pure without Args", l, err)
	}
}

func TestDomain(t *testing.T) {
	const far = api.MaxCoord
	for i, x := range []struct {
		l   []api.Axis
		err api.Errno
	}{
		{nil, api.OK}, {[]api.Axis{axis("r", -far, 64)}, api.OK}, {[]api.Axis{axis("r", far, 64), axis("R", 0, 0)}, api.OK}, {[]api.Axis{axis("r", 0, 0)}, api.OK},
		{make([]api.Axis, 3), api.ErrMany}, {[]api.Axis{axis("r", 0, 1), axis("s", 0, 1), axis("t", 0, 1)}, api.ErrMany},
		{[]api.Axis{axis("", far+1, 1)}, api.ErrName}, {[]api.Axis{axis("9", 0, 1)}, api.ErrName}, {[]api.Axis{axis("r", 0, 1), axis("s t", 0, 65)}, api.ErrName},
		{[]api.Axis{axis("r", 0, 1), axis("r", 0, 65)}, api.ErrTwice}, {[]api.Axis{axis("r", 0, 65), axis("r", 0, 1)}, api.ErrRange}, {[]api.Axis{axis("r", 0, -1), axis("", 0, 1)}, api.ErrRange},
		{[]api.Axis{axis("r", far+1, 1)}, api.ErrRange}, {[]api.Axis{axis("r", -far-1, 1)}, api.ErrRange}, {[]api.Axis{axis("r", 0, 65)}, api.ErrRange}, {[]api.Axis{axis("r", -1<<63, -1<<63)}, api.ErrRange},
	} {
		l, err := mean.Domain(x.l)
		if err != x.err || err != api.OK && l != nil {
			t.Error("Domain", i, l, err)
		}
		if err != api.OK {
			continue
		}
		var want [][]int // the last axis outside
		sizes := [2]api.Range{{Min: 0, Extent: 1}, {Min: 0, Extent: 1}}
		for k, a := range x.l {
			sizes[k] = a.Range
		}
		for s := range sizes[1].Extent {
			for r := range sizes[0].Extent {
				want = append(want, []int{sizes[0].Min + r, sizes[1].Min + s}[:len(x.l)])
			}
		}
		if !slices.EqualFunc(l, want, slices.Equal) {
			t.Error("Domain", i, l, want)
		}
	}
	l, _ := mean.Domain([]api.Axis{axis("r", 0, 2)})
	l[0] = append(l[0], 7)
	if l[1][0] != 1 {
		t.Error("points share memory", l)
	}
}

// given has a right pipeline with two inputs and three parameters, and something right for them.
func given() (api.Pipeline, api.Given) {
	p := api.Pipeline{Name: "p", Inputs: []api.Input{{Name: "a", Kind: api.U8, Dims: 2}, {Name: "b", Kind: api.F32, Dims: 1}}}
	p.Params = []api.Param{{Name: "k", Kind: api.I8, Low: -2, High: 5}, {Name: "q", Kind: api.F32, Low: -1, High: 1}, {Name: "w", Kind: api.U64, Low: 0, High: 1<<63 - 1}}
	add(&p, "f", []string{"x"}, api.I32, "x")
	a := dense(api.U8, api.Box{{Min: 0, Extent: 2}, {Min: 1, Extent: 1}}, 3, 4)
	b := dense(api.F32, api.Box{{Min: 0, Extent: 1}}, 0)
	return p, api.Given{Images: []api.Image{a, b}, Params: []api.Value{{Kind: api.I8, Bits: 254}, {Kind: api.F32, Bits: 0xbf800000}, {Kind: api.U64, Bits: 1<<63 - 1}}}
}

func TestCheckGiven(t *testing.T) {
	for i, x := range []struct {
		change func(p *api.Pipeline, g *api.Given)
		err    api.Errno
	}{
		{func(*api.Pipeline, *api.Given) {}, api.OK},
		{func(p *api.Pipeline, g *api.Given) { g.Images[0].Strides = []int{0, 0}; p.Name = "" }, api.ErrName},
		{func(p *api.Pipeline, g *api.Given) { *g = api.Given{}; p.Funcs[0].Value = nil }, api.ErrEmpty},
		{func(_ *api.Pipeline, g *api.Given) { *g = api.Given{} }, api.ErrShape},
		{func(_ *api.Pipeline, g *api.Given) { g.Images[0].Kind = 11; g.Images = g.Images[:1] }, api.ErrShape},
		{func(_ *api.Pipeline, g *api.Given) { g.Images = append(g.Images, api.Image{}) }, api.ErrShape},
		{func(_ *api.Pipeline, g *api.Given) { g.Images[0].Kind = 11; g.Params = nil }, api.ErrKind},
		{func(_ *api.Pipeline, g *api.Given) { g.Images[0].Box = nil }, api.ErrDims},
		{func(_ *api.Pipeline, g *api.Given) { g.Images[0].Data[1] = 256 }, api.ErrForm},
		{func(_ *api.Pipeline, g *api.Given) { g.Images[0].Strides[0] = 0 }, api.ErrConflict},
		{func(_ *api.Pipeline, g *api.Given) { g.Images[0].Strides[0] = 2 }, api.ErrBounds},
		{func(_ *api.Pipeline, g *api.Given) { g.Images[0], g.Images[1] = g.Images[1], g.Images[0] }, api.ErrType},
		{func(_ *api.Pipeline, g *api.Given) { g.Images[1].Kind = api.U32 }, api.ErrType},
		{func(_ *api.Pipeline, g *api.Given) { g.Images[0] = dense(api.I8, api.Box{{}}) }, api.ErrType},
		{func(_ *api.Pipeline, g *api.Given) { g.Images[0] = dense(api.U8, api.Box{{}}); g.Params = nil }, api.ErrDims},
		{func(_ *api.Pipeline, g *api.Given) { g.Images[1] = dense(api.F32, api.Box{{}, {}}) }, api.ErrDims},
		{func(_ *api.Pipeline, g *api.Given) { g.Images[1] = dense(api.F32, api.Box{{}}) }, api.OK},
		{func(_ *api.Pipeline, g *api.Given) { g.Params[0].Kind = 11; g.Params = g.Params[:2] }, api.ErrShape},
		{func(_ *api.Pipeline, g *api.Given) { g.Params = append(g.Params, api.Value{}) }, api.ErrShape},
		{func(_ *api.Pipeline, g *api.Given) { g.Params[0].Kind = 11; g.Params[1].Kind = 3 }, api.ErrKind},
		{func(_ *api.Pipeline, g *api.Given) { g.Params[0].Bits = 256 }, api.ErrForm},
		{func(_ *api.Pipeline, g *api.Given) { g.Params[0].Kind = api.U8 }, api.ErrType},
		{func(_ *api.Pipeline, g *api.Given) { g.Params[0].Bits = 253; g.Params[1].Kind = api.U32 }, api.ErrRange},
		{func(_ *api.Pipeline, g *api.Given) { g.Params[0].Bits = 6 }, api.ErrRange},
		{func(_ *api.Pipeline, g *api.Given) { g.Params[0].Bits = 5 }, api.OK},
		{func(_ *api.Pipeline, g *api.Given) { g.Params[1].Bits++ }, api.ErrRange},
		{func(_ *api.Pipeline, g *api.Given) { g.Params[1].Bits = 0x80000000 }, api.ErrForm},
		{func(_ *api.Pipeline, g *api.Given) { g.Params[2].Bits++ }, api.ErrRange},
	} {
		p, g := given()
		x.change(&p, &g)
		if err := mean.CheckGiven(p, g); err != x.err {
			t.Error("CheckGiven", i, err)
		}
		v, e1 := mean.At(p, g, "f", []int{0})
		_, e2 := mean.After(p, g, "f", 0, []int{0})
		im, e3 := mean.Compute(p, g, "f", api.Box{{}})
		_, e4 := mean.Realize(p, g, api.Box{{}})
		l, e5 := mean.Reads(p, g, "f", []int{0})
		n, e6 := mean.Work(p, g, api.Box{{}})
		if e1 != x.err || e2 != x.err || e3 != x.err || e4 != x.err || e5 != x.err || e6 != x.err {
			t.Error("the others", i, e1, e2, e3, e4, e5, e6)
		}
		if x.err != api.OK && (v != api.Value{} || im.Box != nil || l != nil || n != 0) {
			t.Error("results beside an error", i, v, im, l, n)
		}
	}
}

// TestArguments asks for what there is not, in the order in which the document names it.
func TestArguments(t *testing.T) {
	p, g := example()
	const far = api.MaxCoord
	for i, x := range []struct {
		f     string
		stage int
		point []int
		err   api.Errno
	}{
		{"f", 0, []int{0}, api.OK}, {"", 9, nil, api.ErrUnknown}, {"h", 9, nil, api.ErrUnknown}, {"a", 0, []int{0}, api.ErrUnknown}, {"x", 0, []int{0}, api.ErrUnknown},
		{"f", 1, nil, api.ErrRange}, {"f", -1, nil, api.ErrRange}, {"g", 2, nil, api.ErrRange}, {"g", 1 << 62, []int{0}, api.ErrRange},
		{"f", 0, nil, api.ErrDims}, {"g", 1, []int{far + 1, 0}, api.ErrDims}, {"g", 1, make([]int, 99), api.ErrDims},
		{"f", 0, []int{far + 1}, api.ErrRange}, {"g", 1, []int{-far - 1}, api.ErrRange}, {"g", 0, []int{-1 << 63}, api.ErrRange}, {"g", 1, []int{far}, api.ErrBounds}, {"g", 0, []int{-far}, api.ErrBounds},
	} {
		v, err := mean.After(p, g, x.f, x.stage, x.point)
		if err != x.err || err != api.OK && v != (api.Value{}) {
			t.Error("After", i, v, err)
		}
		if x.err == api.ErrRange && x.point == nil || x.stage != 0 && x.f == "f" || x.err == api.ErrRange && x.stage > 9 {
			continue
		}
		_, e1 := mean.At(p, g, x.f, x.point)
		l, e2 := mean.Reads(p, g, x.f, x.point)
		if e1 != x.err || e2 != x.err || e2 != api.OK && l != nil {
			t.Error("At, Reads", i, e1, e2, l)
		}
	}
	for i, x := range []struct {
		f   string
		b   api.Box
		err api.Errno
	}{
		{"g", api.Box{{Min: 0, Extent: 5}}, api.OK}, {"g", api.Box{{Min: 0, Extent: 0}}, api.OK}, {"g", api.Box{{Min: far, Extent: 0}}, api.OK}, {"g", api.Box{{Min: far + 1, Extent: 0}}, api.ErrRange}, {"h", nil, api.ErrUnknown},
		{"g", nil, api.ErrDims}, {"g", api.Box{{Extent: 65}}, api.ErrRange}, {"g", api.Box{{Extent: 65}, {Extent: 1}}, api.ErrRange}, {"g", api.Box{{Extent: 64}, {Extent: 64}, {Extent: 2}}, api.ErrMany}, {"g", api.Box{{Extent: 1}, {Extent: 1}}, api.ErrDims}, {"g", api.Box{{Extent: 0}, {Extent: 1}}, api.ErrDims}, {"g", make(api.Box, 4), api.ErrDims},
		{"g", api.Box{{Min: 0, Extent: 6}}, api.ErrBounds}, {"g", api.Box{{Min: -1, Extent: 1}}, api.ErrBounds}, {"g", api.Box{{Min: far, Extent: 1}}, api.ErrBounds},
	} {
		im, err := mean.Compute(p, g, x.f, x.b)
		if err != x.err || err != api.OK && im.Box != nil {
			t.Error("Compute", i, im, err)
		}
		if x.f != "g" {
			continue
		}
		_, e1 := mean.Realize(p, g, x.b)
		n, e2 := mean.Work(p, g, x.b)
		if e1 != x.err || e2 != x.err || e2 != api.OK && n != 0 {
			t.Error("Realize, Work", i, e1, e2, n)
		}
	}
	if n, err := mean.Work(p, g, api.Box{{Extent: 0}}); n != 0 || err != api.OK {
		t.Error("nothing is no work", n, err)
	}
	if im, err := mean.Realize(p, g, api.Box{{Min: 3, Extent: 0}}); err != api.OK || !slices.Equal(im.Box, api.Box{{Min: 3}}) || len(im.Data) != 0 || !slices.Equal(im.Strides, []int{1}) {
		t.Error("an empty image", im, err)
	}
}

// TestNoFunctions asks a pipeline without functions for its output.
func TestNoFunctions(t *testing.T) {
	for i, x := range []struct {
		p   api.Pipeline
		err api.Errno
	}{{api.Pipeline{}, api.ErrName}, {api.Pipeline{Name: "p"}, api.ErrEmpty}, {api.Pipeline{Name: "p", Funcs: make([]api.Func, 1)}, api.ErrName}} {
		_, e1 := mean.Realize(x.p, api.Given{}, nil)
		_, e2 := mean.Work(x.p, api.Given{}, nil)
		_, e3 := mean.At(x.p, api.Given{}, "", nil)
		if e1 != x.err || e2 != x.err || e3 != x.err {
			t.Error(i, e1, e2, e3)
		}
	}
}

// TestWhere has conditions of one node, too.
func TestWhere(t *testing.T) {
	for where, want := range map[string][]uint64{"": {9, 9, 9, 9}, "true": {9, 9, 9, 9}, "false": {0, 1, 2, 3}, "@on": {9, 9, 9, 9}, "!@on": {0, 1, 2, 3}, "x == 2": {0, 1, 9, 3}} {
		p := api.Pipeline{Name: "p", Params: []api.Param{{Name: "on", Kind: api.Bool, High: 1}}}
		add(&p, "f", []string{"x"}, api.U8, "u8(x)")
		updated(&p, []string{"x"}, "9u8", where)
		im, err := mean.Realize(p, api.Given{Params: []api.Value{{Kind: api.Bool, Bits: 1}}}, api.Box{{Extent: 4}})
		if err != api.OK || !slices.Equal(im.Data, want) {
			t.Error(where, im.Data, err)
		}
	}
}

// TestFirstErrors has expressions with several errors, of which the first one that is met decides.
func TestFirstErrors(t *testing.T) {
	for i, x := range []struct {
		left         []string
		value, where string
		err          api.Errno
	}{
		{[]string{"0"}, "1", "", api.OK},
		{[]string{"a[9]"}, "f(2000000)", "", api.ErrBounds},
		{[]string{"2000000"}, "a[9]", "", api.ErrLarge},
		{[]string{"1048577"}, "0", "", api.ErrLarge},
		{[]string{"1048576"}, "0", "", api.OK},
		{[]string{"-1048577"}, "0", "", api.ErrLarge},
		{[]string{"-1048576"}, "0", "", api.OK},
		{[]string{"0"}, "a[1048577]", "", api.ErrLarge},
		{[]string{"0"}, "a[-1048576]", "", api.ErrBounds},
		{[]string{"0"}, "f(1048577)", "", api.ErrLarge},
		{[]string{"0"}, "f(-1048577)", "", api.ErrLarge},
		{[]string{"0"}, "f(1048576)", "", api.OK},
		{[]string{"0"}, "g(1048577)", "", api.ErrLarge},
		{[]string{"0"}, "g(1048576)", "", api.OK},
		{[]string{"a[9]"}, "a[9]", "1 < 0", api.OK},
		{[]string{"a[9]"}, "a[9]", "f(2000000) < 0", api.ErrLarge},
		{[]string{"f(2000000)"}, "0", "a[9] < 0", api.ErrBounds},
		{[]string{"0"}, "a[9] + f(2000000)", "", api.ErrBounds},
		{[]string{"0"}, "f(2000000) + a[9]", "", api.ErrLarge},
		{[]string{"0"}, "select(0 < 1, 5, a[9])", "", api.ErrBounds},
		{[]string{"0"}, "select(1 < 0, f(2000000), 4)", "", api.ErrLarge},
		{[]string{"0"}, "b[9, 2000000]", "", api.ErrLarge}, // all coordinates are asked before the box
		{[]string{"0"}, "b[a[9], 2000000]", "", api.ErrBounds},
		{[]string{"0"}, "b[2000000, a[9]]", "", api.ErrBounds},
		{[]string{"0"}, "b[1, 0]", "", api.ErrBounds},
		{[]string{"0"}, "b[0, 1]", "", api.ErrBounds},
		{[]string{"0"}, "b[0, 0]", "", api.OK},
	} {
		p := api.Pipeline{Name: "p", Inputs: []api.Input{{Name: "a", Kind: api.I32, Dims: 1}, {Name: "b", Kind: api.I32, Dims: 2}}}
		add(&p, "f", []string{"x"}, api.I32, "x")
		add(&p, "g", []string{"x"}, api.I32, "x * 2")
		updated(&p, x.left, x.value, x.where)
		g := api.Given{Images: []api.Image{dense(api.I32, api.Box{{Extent: 2}}, 4, 5), dense(api.I32, api.Box{{Extent: 1}, {Extent: 1}}, 6)}}
		if v, err := mean.At(p, g, "g", []int{3}); err != x.err || err == api.OK && v.Bits != 6 {
			t.Error(i, v, err)
		}
	}
}

// TestOrderOfLefts has two Lefts and a dimension between them that is pure.
func TestOrderOfLefts(t *testing.T) {
	for i, x := range []struct {
		left []string
		err  api.Errno
	}{
		{[]string{"f(2000000)", "y", "2000000 * 2"}, api.ErrLarge}, {[]string{"a[9]", "y", "f(2000000)"}, api.ErrBounds}, {[]string{"f(2000000)", "y", "a[9]"}, api.ErrLarge}, {[]string{"2000000", "y", "a[9]"}, api.ErrLarge}, {[]string{"0", "y", "a[9]"}, api.ErrBounds}, {[]string{"0", "y", "2000000"}, api.ErrLarge}, {[]string{"7", "y", "8"}, api.OK},
	} {
		p := api.Pipeline{Name: "p", Inputs: []api.Input{{Name: "a", Kind: api.I32, Dims: 1}}}
		add(&p, "f", []string{"x"}, api.I32, "x")
		add(&p, "g", []string{"x", "y", "z"}, api.I32, "x + y + z")
		updated(&p, x.left, "y", "")
		g := api.Given{Images: []api.Image{dense(api.I32, api.Box{{Extent: 1}}, 4)}}
		v, e1 := mean.At(p, g, "g", []int{7, 5, 8})
		w, e2 := mean.At(p, g, "g", []int{8, 5, 7})
		if e1 != x.err || e2 != x.err || e1 == api.OK && (v.Bits != 5 || w.Bits != 20) {
			t.Error(i, v, w, e1, e2)
		}
	}
}

// limited has f, a value of which costs 1 + domain's points, and g, which has an update with another domain.
func limited(domain, outer []api.Axis, value, outerValue string) (api.Pipeline, api.Given) {
	p := api.Pipeline{Name: "p", Inputs: []api.Input{{Name: "a", Kind: api.I32, Dims: 1}}}
	add(&p, "f", []string{"x", "y"}, api.I32, "0")
	updated(&p, []string{"x", "y"}, value, "", domain...)
	if outer != nil {
		add(&p, "g", []string{"x"}, api.I32, "0")
		updated(&p, []string{"x"}, outerValue, "", outer...)
	}
	return p, api.Given{Images: []api.Image{dense(api.I32, api.Box{{Extent: 1}}, 4)}}
}

func TestMaxWork(t *testing.T) {
	p, g := limited([]api.Axis{axis("r", 0, 49), axis("s", 0, 51)}, nil, "r", "")
	exact, more := api.Box{{Extent: 40}, {Extent: 2}}, api.Box{{Extent: 27}, {Extent: 3}}
	if n, err := mean.Work(p, g, exact); n != mean.MaxWork || err != api.OK {
		t.Error("as much as there may be", n, err)
	}
	if im, err := mean.Realize(p, g, exact); len(im.Data) != 80 || err != api.OK {
		t.Error("as much as there may be", err)
	}
	if n, err := mean.Work(p, g, more); n != 0 || err != api.ErrLimit {
		t.Error("too much", n, err)
	}
	// 1 + 100 for the slice of g, and 100 times 1 + 54 * 37 for slices of f: one too much
	p, g = limited([]api.Axis{axis("r", 0, 54), axis("s", 0, 37)}, []api.Axis{axis("r", 0, 10), axis("s", 0, 10)}, "r", "f(r, s)")
	if v, err := mean.At(p, g, "g", []int{0}); v != (api.Value{}) || err != api.ErrLimit {
		t.Error("one too much", v, err)
	}
	p.Funcs[1].Updates[0].Domain[1].Extent = 9
	if n, err := mean.Work(p, g, api.Box{{Extent: 1}}); n != 1+90+90*(1+54*37) || err != api.OK {
		t.Error("less", n, err)
	}
	// 49 slices of 1 + 64 * 64 are too many: it is asked before the slice is computed, in which there is an error
	wide := []api.Axis{axis("r", 0, 64), axis("s", 0, 64)}
	p, g = limited(wide, []api.Axis{axis("r", 0, 60)}, "a[x / 48]", "f(r, 0)")
	if _, err := mean.At(p, g, "g", []int{0}); err != api.ErrLimit {
		t.Error("at the beginning of a slice", err)
	}
	p.Funcs[0].Updates[0].Value = exprOf(p, "a[x / 47]")
	if _, err := mean.At(p, g, "g", []int{0}); err != api.ErrBounds {
		t.Error("an error that is met before", err)
	}
}

// TestMaxWorkOfValues reaches the limit with a value after stage 0.
func TestMaxWorkOfValues(t *testing.T) {
	for i, x := range []struct {
		value string
		work  int
		err   api.Errno
	}{{"0", mean.MaxWork, api.OK}, {"h(0)", 0, api.ErrLimit}} { // the value of h is one too much
		p := api.Pipeline{Name: "p"}
		add(&p, "h", []string{"x"}, api.I32, "x")
		add(&p, "f", []string{"x", "y"}, api.I32, x.value)
		updated(&p, []string{"x", "y"}, "f(x, y) + r", "", axis("r", 0, 54), axis("s", 0, 37)) // 1999, and a value
		if n, err := mean.Work(p, api.Given{}, api.Box{{Extent: 50}, {Extent: 2}}); n != x.work || err != x.err {
			t.Error("Work", i, n, err)
		}
		if n, err := mean.Work(p, api.Given{}, api.Box{{Extent: 33}, {Extent: 3}}); n != 99*2000+i || err != api.OK {
			t.Error("less", i, n, err)
		}
	}
}

// TestMemory changes what has been returned and what was given.
func TestMemory(t *testing.T) {
	p, g := example()
	b := api.Box{{Extent: 3}}
	im, _ := mean.Realize(p, g, b)
	reads, _ := mean.Reads(p, g, "g", []int{0})
	im.Box[0].Min, im.Strides[0], im.Data[0] = 9, 9, 9
	for i := range reads {
		reads[i].Point = append(reads[i].Point[:0], -5)
	}
	again, _ := mean.Realize(p, g, b)
	if !slices.Equal(b, api.Box{{Extent: 3}}) || !slices.Equal(again.Data, []uint64{3, 8, 15}) || !slices.Equal(g.Images[0].Data, []uint64{1, 2, 3, 4, 5, 250}) {
		t.Error("shared memory", b, again, g)
	}
	if e := p.Funcs[1].Updates[0].Left[0]; len(e) != 1 || !expr.Same(e, exprOf(p, "r")) {
		t.Error("a changed argument", e)
	}
}
