package pipe_test

import (
	"fmt"
	"math/rand"
	"slices"
	"strings"
	"testing"

	"halation/api"
	"halation/expr"
	"halation/lang"
	"halation/pipe"
)

// exprOf returns the expression of a text with the names of a pipeline.
func exprOf(p api.Pipeline, s string) api.Expr {
	if s == "" {
		return nil
	}
	var decls []lang.Decl
	for _, in := range p.Inputs {
		decls = append(decls, lang.Decl{Op: api.EImage, Name: in.Name, Kind: in.Kind})
	}
	for _, x := range p.Params {
		decls = append(decls, lang.Decl{Op: api.EParam, Name: x.Name, Kind: x.Kind})
	}
	for _, f := range p.Funcs {
		decls = append(decls, lang.Decl{Op: api.ECall, Name: f.Name, Kind: f.Kind})
	}
	e, place, err := lang.Parse(s, decls)
	if err != api.OK {
		panic(fmt.Sprintln(s, place, err))
	}
	return e
}

// update returns an update of the function that is the last one of a pipeline.
func update(p api.Pipeline, left []string, value, where string, domain ...api.Axis) api.Update {
	u := api.Update{Value: exprOf(p, value), Where: exprOf(p, where), Domain: domain}
	for _, s := range left {
		u.Left = append(u.Left, exprOf(p, s))
	}
	return u
}

func axis(name string, least, extent int) api.Axis {
	return api.Axis{Name: name, Range: api.Range{Min: least, Extent: extent}}
}

// example returns the document's P.
func example() api.Pipeline {
	p := api.Pipeline{Name: "p", Inputs: []api.Input{{Name: "in", Kind: api.U8, Dims: 1}}, Params: []api.Param{{Name: "gain", Kind: api.I32, Low: 1, High: 9}}}
	p.Funcs = append(p.Funcs, api.Func{Name: "blur", Args: []string{"x"}, Kind: api.I32, Value: exprOf(p, "i32(in[x]) + i32(in[x + 1])")})
	p.Funcs = append(p.Funcs, api.Func{Name: "out", Args: []string{"x"}, Kind: api.I32, Value: exprOf(p, "blur(x) * @gain")})
	p.Funcs[1].Updates = []api.Update{update(p, []string{"x"}, "out(x) + blur(x + r)", "", axis("r", 0, 4))}
	return p
}

// larger returns a pipeline with two dimensions, several updates, and a function that nothing uses.
func larger() api.Pipeline {
	p := api.Pipeline{Name: "larger", Inputs: []api.Input{{Name: "a", Kind: api.U8, Dims: 2}, {Name: "b", Kind: api.F32, Dims: 1}}, Params: []api.Param{{Name: "k", Kind: api.I32, Low: -5, High: 5}, {Name: "on", Kind: api.Bool, High: 1}}}
	p.Funcs = append(p.Funcs, api.Func{Name: "g", Args: []string{"x", "y"}, Kind: api.I32, Value: exprOf(p, "select(@on, i32(a[x, y]), x * @k)")})
	p.Funcs = append(p.Funcs, api.Func{Name: "idle", Args: []string{"x"}, Kind: api.F32, Value: exprOf(p, "b[g.i32(x, x)]")})
	p.Funcs = append(p.Funcs, api.Func{Name: "sum", Args: []string{"x", "y"}, Kind: api.I32, Value: exprOf(p, "g(x, y) + 0")})
	p.Funcs[2].Updates = []api.Update{
		update(p, []string{"x", "r"}, "sum(x, r - 1) + g(x, s)", "(x < r) & (s != 2)", axis("r", 1, 3), axis("s", 0, 3)),
		update(p, []string{"r", "y"}, "sum(r + 1, y)", "", axis("r", 0, 2)),
	}
	p.Funcs = append(p.Funcs, api.Func{Name: "out", Args: []string{"y"}, Kind: api.U8, Value: exprOf(p, "u8(sum(y, y) + g(y, g(y, 1)))")})
	return p
}

// copied returns a copy of a pipeline that shares no memory with it.
func copied(p api.Pipeline) api.Pipeline {
	copyExpr := func(e api.Expr) api.Expr {
		e = slices.Clone(e)
		for i := range e {
			e[i].Kids, e[i].Picks = slices.Clone(e[i].Kids), slices.Clone(e[i].Picks)
		}
		return e
	}
	p.Inputs, p.Params, p.Funcs = slices.Clone(p.Inputs), slices.Clone(p.Params), slices.Clone(p.Funcs)
	for i := range p.Funcs {
		f := &p.Funcs[i]
		f.Args, f.Value, f.Updates = slices.Clone(f.Args), copyExpr(f.Value), slices.Clone(f.Updates)
		for j := range f.Updates {
			u := &f.Updates[j]
			u.Left, u.Value, u.Domain, u.Where = slices.Clone(u.Left), copyExpr(u.Value), slices.Clone(u.Domain), copyExpr(u.Where)
			for k := range u.Left {
				u.Left[k] = copyExpr(u.Left[k])
			}
		}
	}
	return p
}

func equalUpdates(a, b api.Update) bool {
	return slices.EqualFunc(a.Left, b.Left, expr.Same) && expr.Same(a.Value, b.Value) && slices.Equal(a.Domain, b.Domain) && expr.Same(a.Where, b.Where)
}

func equal(a, b api.Pipeline) bool {
	return a.Name == b.Name && slices.Equal(a.Inputs, b.Inputs) && slices.Equal(a.Params, b.Params) && slices.EqualFunc(a.Funcs, b.Funcs, func(f, g api.Func) bool {
		return f.Name == g.Name && slices.Equal(f.Args, g.Args) && f.Kind == g.Kind && expr.Same(f.Value, g.Value) && slices.EqualFunc(f.Updates, g.Updates, equalUpdates)
	})
}

// maker makes right pipelines.
type maker struct {
	*rand.Rand
	p    api.Pipeline
	self string // what stands for a self-call in an update
}

func (m *maker) oneOf(l ...string) string { return l[m.Intn(len(l))] }

var kindNames = []string{"bool", "u8", "u16", "u32", "u64", "i8", "i16", "i32", "i64", "f32", "c64"}

// integer returns the text of an expression of the kind I32 in some variables.
func (m *maker) integer(vars []string, depth int) string {
	switch choice := m.Intn(9); {
	case choice < 2 && len(vars) > 0:
		return m.oneOf(vars...)
	case choice < 3 || depth == 0:
		return fmt.Sprint(m.Intn(9) - 4)
	case choice == 3 && m.self != "":
		return "i32(" + m.self + ")"
	case choice == 4 && len(m.p.Inputs) > 0:
		in := m.p.Inputs[m.Intn(len(m.p.Inputs))]
		return "i32(" + in.Name + "[" + m.coordinates(vars, in.Dims, depth) + "])"
	case choice == 5 && len(m.p.Params) > 0:
		return "i32(@" + m.p.Params[m.Intn(len(m.p.Params))].Name + ")"
	case choice == 6 || choice == 7:
		if len(m.p.Funcs) == 0 {
			break
		}
		f := m.p.Funcs[m.Intn(len(m.p.Funcs))]
		return "i32(" + f.Name + "(" + m.coordinates(vars, len(f.Args), depth) + "))"
	}
	return "(" + m.integer(vars, depth-1) + m.oneOf(" + ", " - ", " * ", " / ", " % ", " & ") + m.integer(vars, depth-1) + ")"
}

func (m *maker) coordinates(vars []string, dims, depth int) string {
	var l []string
	for range dims {
		l = append(l, m.integer(vars, depth-1))
	}
	return strings.Join(l, ", ")
}

// makePipeline makes a right pipeline with kinds whose casts from and to I32 are there.
func makePipeline(seed int64) api.Pipeline {
	m := &maker{Rand: rand.New(rand.NewSource(seed)), p: api.Pipeline{Name: "made"}}
	for i := range m.Intn(3) {
		m.p.Inputs = append(m.p.Inputs, api.Input{Name: fmt.Sprint("in", i), Kind: m.Intn(api.C64), Dims: 1 + m.Intn(3)})
	}
	for i := range m.Intn(3) {
		m.p.Params = append(m.p.Params, api.Param{Name: fmt.Sprint("p", i), Kind: m.Intn(api.C64), High: 1})
	}
	for i := range 1 + m.Intn(5) {
		f := api.Func{Name: fmt.Sprint("f", i), Args: []string{"x", "y", "z"}[:1+m.Intn(3)], Kind: m.Intn(api.C64)}
		f.Value = exprOf(m.p, kindNames[f.Kind]+"("+m.integer(f.Args, 2)+")")
		var updates []api.Update
		for range m.Intn(3) {
			updates = append(updates, m.update(f))
		}
		f.Updates = updates
		m.p.Funcs = append(m.p.Funcs, f)
	}
	return m.p
}

func (m *maker) update(f api.Func) api.Update {
	var domain []api.Axis
	var vars []string
	for i := range m.Intn(3) {
		domain = append(domain, axis(fmt.Sprint("r", i), m.Intn(5)-2, 1+m.Intn(3)))
		vars = append(vars, domain[i].Name)
	}
	self := make([]string, len(f.Args))
	left := make([]string, len(f.Args))
	isPure := make([]bool, len(f.Args))
	for i, arg := range f.Args {
		if isPure[i] = m.Intn(2) == 0; isPure[i] {
			vars = append(vars, arg)
		}
	}
	for i, arg := range f.Args {
		left[i], self[i] = m.integer(vars, 1), m.integer(vars, 1)
		if isPure[i] {
			left[i], self[i] = arg, arg
		}
	}
	m.self = f.Name + "." + kindNames[f.Kind] + "(" + strings.Join(self, ", ") + ")"
	value, where := kindNames[f.Kind]+"("+m.integer(vars, 2)+")", ""
	if m.Intn(3) == 0 {
		where = m.integer(vars, 1) + " < " + m.integer(vars, 1)
	}
	u := update(m.p, left, value, where, domain...)
	m.self = ""
	return u
}

const madePipelines = 800

// TestMaker keeps the made pipelines as various as the other tests need them.
func TestMaker(t *testing.T) {
	seen := map[string]int{}
	for seed := range int64(madePipelines) {
		p := makePipeline(seed)
		if at, err := pipe.Check(p); err != api.OK || at != (pipe.Place{}) {
			t.Fatal("a made pipeline is not right", seed, at, err)
		}
		for f, fn := range p.Funcs {
			for k := range fn.Updates {
				pure, _ := pipe.Pure(p, f, k+1)
				seen[fmt.Sprint("pure ", slices.Contains(pure, true))]++
				uses, _ := expr.Uses(fn.Updates[k].Value, api.ECall)
				seen[fmt.Sprint("self ", slices.Contains(uses, fn.Name))]++
			}
			uses, _ := pipe.Uses(p, f)
			seen[fmt.Sprint("uses ", len(uses))]++
		}
	}
	for _, what := range []string{"pure true", "pure false", "self true", "self false", "uses 0", "uses 1", "uses 2"} {
		if seen[what] < 20 {
			t.Error("rare", what, seen)
		}
	}
}
