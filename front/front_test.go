package front_test

import (
	"fmt"
	"slices"
	"strings"
	"testing"

	"halation/api"
	"halation/front"
	"halation/lang"
	"halation/pipe"
)

// Promise P7.1.

func example() api.Pipeline {
	p, line, column, err := front.Parse(textOf(exampleLines()))
	if err != api.OK || line != 0 || column != 0 {
		panic(fmt.Sprintln(line, column, err))
	}
	return p
}

func TestExamplesOfPipelines(t *testing.T) {
	p := example()
	want := api.Pipeline{Name: "p", Inputs: []api.Input{{Name: "in", Kind: api.U8, Dims: 1}}, Params: []api.Param{{Name: "gain", Kind: api.I32, Low: 1, High: 9}}}
	want.Funcs = append(want.Funcs, api.Func{Name: "blur", Args: []string{"x"}, Kind: api.I32, Value: exprOf(want, "i32(in[x]) + i32(in[x + 1])")})
	want.Funcs = append(want.Funcs, api.Func{Name: "out", Args: []string{"x"}, Kind: api.I32, Value: exprOf(want, "blur(x) * @gain")})
	want.Funcs[1].Updates = []api.Update{{Left: []api.Expr{exprOf(want, "x")}, Value: exprOf(want, "out(x) + blur(x + r)"), Domain: []api.Axis{axis("r", 0, 4)}}}
	if !equal(p, want) {
		t.Error("Parse", p)
	}
	if s, err := front.Print(want); s != textOf(exampleLines()) || err != api.OK {
		t.Error("Print", s, err)
	}
	for _, x := range []struct {
		at   pipe.Place
		line int
		err  api.Errno
	}{
		{pipe.Place{Func: 1, Stage: 1, Part: 0}, 6, api.OK}, {pipe.Place{Func: 1, Stage: 0, Part: 0}, 4, api.OK}, {pipe.Place{Func: 1, Stage: -1, Part: -1}, 4, api.OK}, {pipe.Place{Func: 0, Stage: 0, Part: 0}, 3, api.OK}, {pipe.Place{Func: 1, Stage: 1, Part: -9}, 6, api.OK},
		{pipe.Place{Func: -1, Stage: -1, Part: -1}, 0, api.OK}, {pipe.Place{Func: -1, Stage: 0, Part: 0}, 0, api.OK},
		{pipe.Place{Func: -2, Stage: -1, Part: -1}, 0, api.ErrUnknown}, {pipe.Place{Func: -2}, 0, api.ErrUnknown}, {pipe.Place{Func: 2}, 0, api.ErrUnknown}, {pipe.Place{Func: 2, Stage: -1}, 0, api.ErrUnknown}, {pipe.Place{Func: 1 << 62, Stage: 1 << 62}, 0, api.ErrUnknown},
		{pipe.Place{Func: 0, Stage: 1}, 0, api.ErrUnknown}, {pipe.Place{Func: 1, Stage: 2}, 0, api.ErrUnknown}, {pipe.Place{Func: 1, Stage: -2}, 0, api.ErrUnknown}, {pipe.Place{Func: 1, Stage: -1 << 63}, 0, api.ErrUnknown},
	} {
		if line, err := front.Line(want, x.at); line != x.line || err != x.err {
			t.Error("Line", x.at, line, err)
		}
	}
	decls, err := front.Decls(want, 1, 1)
	if err != api.OK || !slices.Equal(decls, []lang.Decl{{Op: api.EParam, Name: "gain", Kind: api.I32}, {Op: api.EImage, Name: "in", Kind: api.U8}, {Op: api.ECall, Name: "blur", Kind: api.I32}, {Op: api.ECall, Name: "out", Kind: api.I32}}) {
		t.Error("Decls", decls, err)
	}
	for _, x := range []struct {
		f, stage int
		count    int
		err      api.Errno
	}{{0, 0, 2, api.OK}, {1, 0, 3, api.OK}, {1, 1, 4, api.OK}, {0, 1, 0, api.ErrUnknown}, {1, 2, 0, api.ErrUnknown}, {2, 0, 0, api.ErrUnknown}, {-1, 0, 0, api.ErrUnknown}, {0, -1, 0, api.ErrUnknown}, {1 << 62, -1 << 62, 0, api.ErrUnknown}} {
		if l, err := front.Decls(want, x.f, x.stage); len(l) != x.count || err != x.err {
			t.Error("Decls", x, l, err)
		}
	}
}

// TestWrongPipelines gives pipelines that are not right to all functions.
func TestWrongPipelines(t *testing.T) {
	p := example()
	for i, change := range []func(p *api.Pipeline){
		func(p *api.Pipeline) { *p = api.Pipeline{} },
		func(p *api.Pipeline) { p.Name = "9" },
		func(p *api.Pipeline) { p.Funcs = nil },
		func(p *api.Pipeline) { p.Funcs = p.Funcs[1:] },
		func(p *api.Pipeline) { p.Inputs = append(p.Inputs, p.Inputs...) },
		func(p *api.Pipeline) { p.Params = []api.Param{{Name: "gain", Kind: api.I32, Low: 1}} },
	} {
		wrong := p
		change(&wrong)
		_, want := pipe.Check(wrong)
		decls, e1 := front.Decls(wrong, 9, 9)
		s, e2 := front.Print(wrong)
		line, e3 := front.Line(wrong, pipe.Place{Func: -1})
		_, e4 := front.Line(wrong, pipe.Place{Func: 99})
		if want == api.OK || e1 != want || e2 != want || e3 != want || e4 != want || decls != nil || s != "" || line != 0 {
			t.Error(i, want, e1, e2, e3, e4)
		}
	}
}

// printed returns the text of a right pipeline, in the document's words.
func printed(p api.Pipeline) string {
	s := fmt.Sprintf("pipeline %s\n", p.Name)
	var decls []lang.Decl
	for _, x := range p.Params {
		decls = append(decls, lang.Decl{Op: api.EParam, Name: x.Name, Kind: x.Kind})
	}
	for _, in := range p.Inputs {
		decls = append(decls, lang.Decl{Op: api.EImage, Name: in.Name, Kind: in.Kind})
		s += fmt.Sprintf("input %s %s %d\n", in.Name, kindNames[in.Kind], in.Dims)
	}
	for _, x := range p.Params {
		s += fmt.Sprintf("param %s %s %d %d\n", x.Name, kindNames[x.Kind], x.Low, x.High)
	}
	for _, f := range p.Funcs {
		text := func(e api.Expr) string {
			s, err := lang.Print(e, decls)
			if err != api.OK {
				panic(err)
			}
			return s
		}
		s += fmt.Sprintf("func %s(%s) %s = %s\n", f.Name, strings.Join(f.Args, ", "), kindNames[f.Kind], text(f.Value))
		decls = append(decls, lang.Decl{Op: api.ECall, Name: f.Name, Kind: f.Kind})
		for _, u := range f.Updates {
			for _, a := range u.Domain {
				s += fmt.Sprintf("over %s %d %d\n", a.Name, a.Min, a.Extent)
			}
			if len(u.Where) > 0 {
				s += fmt.Sprintf("where %s\n", text(u.Where))
			}
			var left []string
			for _, e := range u.Left {
				left = append(left, text(e))
			}
			s += fmt.Sprintf("set %s = %s\n", strings.Join(left, ", "), text(u.Value))
		}
	}
	return s + "end\n"
}

const madePipelines = 1500

// TestMadePipelines prints made pipelines, reads them again, and looks for the lines of their places.
func TestMadePipelines(t *testing.T) {
	for seed := range int64(madePipelines) {
		p := makePipeline(seed)
		s, err := front.Print(p)
		if err != api.OK || s != printed(p) {
			t.Fatal("Print", seed, s, err)
		}
		back, line, column, err := front.Parse(s)
		if err != api.OK || line != 0 || column != 0 || !equal(back, p) {
			t.Fatal("Parse", seed, line, column, err)
		}
		lines := strings.Split(s, "\n")
		if _, line, column, err := front.Parse(textOf(lines[:len(lines)-2])); line != len(lines)-2 || column != 0 || err != api.ErrSyntax {
			t.Fatal("without the last line", seed, line, column, err)
		}
		last := 0
		for f, fn := range p.Funcs {
			for stage := -1; stage <= len(fn.Updates); stage++ {
				line, err := front.Line(p, pipe.Place{Func: f, Stage: stage})
				want := "set "
				if stage < 1 {
					want = "func " + fn.Name + "("
				}
				if err != api.OK || !strings.HasPrefix(lines[line], want) || line < last || stage > -1 && stage != 0 && line == last {
					t.Fatal("Line", seed, f, stage, line, err)
				}
				last = line
			}
			decls, err := front.Decls(p, f, len(fn.Updates))
			count := len(p.Params) + len(p.Inputs) + f
			if len(fn.Updates) > 0 {
				count++
			}
			if err != api.OK || len(decls) != count || lang.CheckDecls(decls) != api.OK {
				t.Fatal("Decls", seed, f, decls, err)
			}
		}
	}
}

// TestShortConditions has conditions of one node.
func TestShortConditions(t *testing.T) {
	lines := []string{"pipeline p", "param on bool 0 1", "func f(x) i32 = x", "where @on", "set x = 1", "where true", "set x = 2", "set x = 3", "end"}
	p, _, _, err := front.Parse(textOf(lines))
	s, err2 := front.Print(p)
	if err != api.OK || err2 != api.OK || s != textOf(lines) {
		t.Error(s, err, err2)
	}
	for stage, want := range []int{2, 4, 6, 7} {
		if line, err := front.Line(p, pipe.Place{Stage: stage}); line != want || err != api.OK {
			t.Error("Line", stage, line, err)
		}
	}
}

// TestLongTexts prints what is too long.
func TestLongTexts(t *testing.T) {
	name := strings.Repeat("v", 24)
	wide := strings.Repeat(name+" + ", 127) + name // 128 + 127 nodes, 3453 bytes
	p := api.Pipeline{Name: "p"}
	long := func(value string) api.Func {
		e, _, err := lang.Parse(value, nil)
		if err != api.OK {
			panic(err)
		}
		return api.Func{Name: "f", Args: []string{name}, Kind: api.I32, Value: e}
	}
	p.Funcs = []api.Func{long(wide)}
	if s, err := front.Print(p); err != api.OK || !strings.Contains(s, wide) {
		t.Error("long", err)
	}
	e := long(name).Value
	for range 120 { // sat_add(v, sat_add(v, ..)), 241 nodes and more than 4096 bytes
		kid := append(long(name).Value, e...)
		for i := range kid[1:] {
			kid[1+i].Kids = shifted(kid[1+i].Kids)
		}
		e = append(kid, api.Node{Op: api.ESatAdd, Kind: api.I32, Lanes: 1, Kids: []int{0, len(kid) - 1}})
	}
	p.Funcs[0].Value = e
	if s, err := front.Print(p); err != api.ErrLong || s != "" {
		t.Error("an expression that is too long", len(s), err)
	}
	p.Funcs = []api.Func{long(wide)}
	u := api.Update{Left: []api.Expr{long(name).Value}, Value: e}
	p.Funcs[0].Updates = []api.Update{u}
	if _, err := front.Print(p); err != api.ErrLong {
		t.Error("a value that is too long", err)
	}
	p.Funcs[0].Updates[0] = api.Update{Left: []api.Expr{e}, Value: long("1").Value, Domain: []api.Axis{axis(name, 0, 1)}}
	p.Funcs[0].Args = []string{"x"}
	p.Funcs[0].Value = long("1").Value
	if _, err := front.Print(p); err != api.ErrLong {
		t.Error("a list that is too long", err)
	}
	yes, _, _ := lang.Parse("1 < 2", nil)
	where := append(slices.Clone(e), long("1").Value...)
	where = append(where, api.Node{Op: api.ELt, Kind: api.Bool, Lanes: 1, Kids: []int{len(e) - 1, len(e)}})
	p.Funcs[0].Updates[0] = api.Update{Left: []api.Expr{long("1").Value}, Value: long("1").Value, Domain: []api.Axis{axis(name, 0, 1)}, Where: where}
	if _, err := front.Print(p); err != api.ErrLong {
		t.Error("a condition that is too long", err)
	}
	p.Funcs[0].Updates[0].Where = yes
	if _, err := front.Print(p); err != api.OK {
		t.Error("short again", err)
	}
}

func shifted(kids []int) []int {
	out := slices.Clone(kids)
	for i := range out {
		out[i]++
	}
	return out
}

// TestMaxText prints a text of as many bytes as there may be, and one of one more.
func TestMaxText(t *testing.T) {
	name := strings.Repeat("v", 24)
	sum := func(count int) api.Expr { return exprOf(api.Pipeline{}, strings.Repeat(name+" + ", count)+name) }
	p := api.Pipeline{Name: "p"}
	for i := range 12 {
		f := api.Func{Name: fmt.Sprint("f", i), Args: []string{name}, Kind: api.I32, Value: sum(127)}
		if i > 5 {
			f.Updates = []api.Update{{Left: []api.Expr{sum(0)}, Value: sum(127)}}
		}
		p.Funcs = append(p.Funcs, f)
	}
	last := &p.Funcs[0]
	count := 0
	fill := func(n int) string {
		last.Updates = []api.Update{{Left: []api.Expr{sum(0)}, Value: sum(n)}}
		s, _ := front.Print(p)
		return s
	}
	for fill(count+1) != "" {
		count++
	}
	room := api.MaxText - len(fill(count))
	p.Name += strings.Repeat("p", min(room, 23))
	last.Name += strings.Repeat("f", max(0, room-23))
	s, err := front.Print(p)
	if len(s) != api.MaxText || err != api.OK {
		t.Fatal("the longest text", len(s), err, room, count)
	}
	if back, _, _, err := front.Parse(s); err != api.OK || !equal(back, p) {
		t.Error("the longest text is read", err)
	}
	p.Funcs[1].Name += "f"
	if s, err := front.Print(p); s != "" || err != api.ErrLong {
		t.Error("one byte more", len(s), err)
	}
	if _, line, column, err := front.Parse(s + "x"); line != 0 || column != 0 || err != api.ErrLong {
		t.Error("one byte more is read", line, column, err)
	}
}
