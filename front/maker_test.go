package front_test

import (
	"fmt"
	"math/rand"
	"slices"
	"strings"

	"halation/api"
	"halation/expr"
	"halation/front"
	"halation/lang"
)

// exprOf returns the expression of a text with the names of a pipeline.
func exprOf(p api.Pipeline, s string) api.Expr {
	if s == "" {
		return nil
	}
	var decls []lang.Decl
	for _, in := range p.Inputs {
		decls = append(decls, lang.Decl{Op: api.EImage, Name: in.Name, Kind: in.Kind})
	}
	for _, x := range p.Params {
		decls = append(decls, lang.Decl{Op: api.EParam, Name: x.Name, Kind: x.Kind})
	}
	for _, f := range p.Funcs {
		decls = append(decls, lang.Decl{Op: api.ECall, Name: f.Name, Kind: f.Kind})
	}
	e, place, err := lang.Parse(s, decls)
	if err != api.OK {
		panic(fmt.Sprintln(s, place, err))
	}
	return e
}

func axis(name string, least, extent int) api.Axis {
	return api.Axis{Name: name, Range: api.Range{Min: least, Extent: extent}}
}

// exampleLines are the lines of the document's P.
func exampleLines() []string {
	return []string{"pipeline p", "input in u8 1", "param gain i32 1 9", "func blur(x) i32 = i32(in[x]) + i32(in[x + 1])", "func out(x) i32 = blur(x) * @gain", "over r 0 4", "set x = out(x) + blur(x + r)", "end"}
}

// textOf returns lines as a text.
func textOf(l []string) string {
	if len(l) == 0 {
		return ""
	}
	return strings.Join(l, "\n") + "\n"
}

func equal(a, b api.Pipeline) bool {
	equalUpdates := func(a, b api.Update) bool {
		return slices.EqualFunc(a.Left, b.Left, expr.Same) && expr.Same(a.Value, b.Value) && slices.Equal(a.Domain, b.Domain) && expr.Same(a.Where, b.Where)
	}
	return a.Name == b.Name && slices.Equal(a.Inputs, b.Inputs) && slices.Equal(a.Params, b.Params) && slices.EqualFunc(a.Funcs, b.Funcs, func(f, g api.Func) bool {
		return f.Name == g.Name && slices.Equal(f.Args, g.Args) && f.Kind == g.Kind && expr.Same(f.Value, g.Value) && slices.EqualFunc(f.Updates, g.Updates, equalUpdates)
	})
}

var kindNames = []string{"bool", "u8", "u16", "u32", "u64", "i8", "i16", "i32", "i64", "f32", "c64"}

// maker makes right pipelines and generators.
type maker struct {
	*rand.Rand
	p       api.Pipeline
	earlier int    // how many functions may be called
	self    string // what stands for a self-call in an update
}

func (m *maker) oneOf(l ...string) string { return l[m.Intn(len(l))] }

// integer returns the text of an expression of the kind I32 in some variables.
func (m *maker) integer(vars []string, depth int) string {
	switch choice := m.Intn(9); {
	case choice < 2 && len(vars) > 0:
		return m.oneOf(vars...)
	case choice < 3 || depth == 0:
		return fmt.Sprint(m.Intn(9) - 4)
	case choice == 3 && m.self != "":
		return "i32(" + m.self + ")"
	case choice == 4 && len(m.p.Inputs) > 0:
		in := m.p.Inputs[m.Intn(len(m.p.Inputs))]
		return "i32(" + in.Name + "[" + m.coordinates(vars, in.Dims, depth) + "])"
	case choice == 5 && len(m.p.Params) > 0:
		return "i32(@" + m.p.Params[m.Intn(len(m.p.Params))].Name + ")"
	case (choice == 6 || choice == 7) && m.earlier > 0:
		f := m.p.Funcs[m.Intn(m.earlier)]
		return "i32(" + f.Name + "." + kindNames[f.Kind] + "(" + m.coordinates(vars, len(f.Args), depth) + "))"
	}
	return "(" + m.integer(vars, depth-1) + m.oneOf(" + ", " - ", " * ", " / ", " % ", " & ") + m.integer(vars, depth-1) + ")"
}

func (m *maker) coordinates(vars []string, dims, depth int) string {
	var l []string
	for range dims {
		l = append(l, m.integer(vars, depth-1))
	}
	return strings.Join(l, ", ")
}

// names are words that may be names in all sorts of ways.
var names = []string{"f", "g", "in", "end", "pipeline", "input", "param", "func", "over", "where", "set", "repeat", "done", "int", "kind", "min", "select", "u8", "true", "_", "A9", strings.Repeat("n", 24)}

func makePipeline(seed int64) api.Pipeline {
	m := &maker{Rand: rand.New(rand.NewSource(seed))}
	free := slices.Clone(names)
	m.Shuffle(len(free), func(i, j int) { free[i], free[j] = free[j], free[i] })
	m.p.Name, free = free[0], free[1:]
	for range m.Intn(3) {
		m.p.Inputs = append(m.p.Inputs, api.Input{Name: free[0], Kind: m.Intn(api.C64), Dims: 1 + m.Intn(3)})
		free = free[1:]
	}
	for range m.Intn(3) {
		low := int64(m.Intn(3)) - 1
		kind := []int{api.I8, api.I32, api.I64, api.F32}[m.Intn(4)]
		m.p.Params = append(m.p.Params, api.Param{Name: free[0], Kind: kind, Low: low, High: low + int64(m.Intn(4))})
		if kind == api.I64 && m.Intn(2) == 0 {
			m.p.Params[len(m.p.Params)-1].Low = -1 << 63
			m.p.Params[len(m.p.Params)-1].High = 1<<63 - 1
		}
		free = free[1:]
	}
	for range 1 + m.Intn(5) {
		f := api.Func{Name: free[0], Args: []string{"x", "select", "z"}[:1+m.Intn(3)], Kind: m.Intn(api.C64)}
		free = free[1:]
		f.Value = exprOf(m.p, kindNames[f.Kind]+"("+m.integer(dollared(f.Args), 2)+")")
		for range m.Intn(3) {
			f.Updates = append(f.Updates, m.update(f))
		}
		m.p.Funcs = append(m.p.Funcs, f)
		m.earlier++
	}
	return m.p
}

// dollared returns the texts of variables, also of those that are reserved.
func dollared(vars []string) []string {
	out := slices.Clone(vars)
	for i := range out {
		out[i] = "$" + out[i]
	}
	return out
}

func (m *maker) update(f api.Func) api.Update {
	var u api.Update
	var vars []string
	for i := range m.Intn(3) {
		u.Domain = append(u.Domain, axis([]string{"r", "max"}[i], m.Intn(5)-2, 1+m.Intn(3)))
		vars = append(vars, "$"+u.Domain[i].Name)
	}
	left, self := make([]string, len(f.Args)), make([]string, len(f.Args))
	isPure := make([]bool, len(f.Args))
	for i, arg := range dollared(f.Args) {
		if isPure[i] = m.Intn(2) == 0; isPure[i] {
			vars = append(vars, arg)
		}
	}
	for i, arg := range dollared(f.Args) {
		left[i], self[i] = m.integer(vars, 1), m.integer(vars, 1)
		if isPure[i] {
			left[i], self[i] = arg, arg
		}
	}
	m.self = f.Name + "." + kindNames[f.Kind] + "(" + strings.Join(self, ", ") + ")"
	u.Value = exprOf(m.p, kindNames[f.Kind]+"("+m.integer(vars, 2)+")")
	if m.Intn(3) == 0 {
		u.Where = exprOf(m.p, m.integer(vars, 1)+m.oneOf(" < ", " == ")+m.integer(vars, 1))
	}
	for _, s := range left {
		u.Left = append(u.Left, exprOf(m.p, s))
	}
	m.self = ""
	return u
}

// pyramid returns the document's G.
func pyramid() front.Generator {
	return front.Generator{Name: "pyr", Ints: []front.IntParam{{Name: "n", Low: 1, High: 4}}, Kinds: []string{"T"}, Lines: []string{"input in #T 1", "func f0(x) #T = in[x]", "repeat i 1 #n", "func f#i(x) #T = f#(i-1)(x + 1)", "done"}}
}

func equalGenerators(a, b front.Generator) bool {
	return a.Name == b.Name && slices.Equal(a.Ints, b.Ints) && slices.Equal(a.Kinds, b.Kinds) && slices.Equal(a.Lines, b.Lines)
}

// makeGenerator makes a right generator, of which not always pipelines become.
func makeGenerator(seed int64) front.Generator {
	m := &maker{Rand: rand.New(rand.NewSource(seed))}
	free := slices.Clone(names)
	m.Shuffle(len(free), func(i, j int) { free[i], free[j] = free[j], free[i] })
	g := front.Generator{Name: free[0]}
	for i := range m.Intn(5) {
		low := m.Intn(20) - 10
		g.Ints = append(g.Ints, front.IntParam{Name: free[1+i], Low: low, High: low + m.Intn(8)})
	}
	for i := range m.Intn(3) {
		g.Kinds = append(g.Kinds, free[6+i])
	}
	var numbers []string
	for _, x := range g.Ints {
		numbers = append(numbers, x.Name)
	}
	g.Lines = m.lines(numbers, g.Kinds, free[9:12], 1+m.Intn(6))
	return g
}

// lines makes lines with references, and repetitions with these names in them.
func (m *maker) lines(numbers, kinds, repeated []string, count int) []string {
	var out []string
	for range count {
		if len(repeated) > 0 && m.Intn(3) == 0 {
			out = append(out, "repeat "+repeated[0]+" "+m.bound(numbers)+" "+m.bound(numbers))
			out = append(out, m.lines(append(slices.Clone(numbers), repeated[0]), kinds, repeated[1:], m.Intn(4))...)
			out = append(out, "done")
			continue
		}
		line := ""
		for range m.Intn(5) {
			line += m.oneOf("", "x", " ", "é", "(", "repeat", "done", "(n+1)", "\r", "9") + m.reference(numbers, kinds)
		}
		if strings.HasPrefix(line, "repeat ") || strings.HasPrefix(line, "done ") || line == "done" || line == "repeat" {
			line = " " + line
		}
		out = append(out, line)
	}
	return out
}

// reference makes a reference, behind which nothing can belong to it.
func (m *maker) reference(numbers, kinds []string) string {
	all := slices.Concat(numbers, kinds)
	switch {
	case len(all) == 0 || m.Intn(4) == 0:
		return m.oneOf("", "-", "+1)")
	case len(numbers) > 0 && m.Intn(2) == 0:
		return "#(" + m.oneOf(numbers...) + m.oneOf("+", "-") + m.oneOf("0", "1", "02", "007", "999") + ")"
	}
	return "#" + m.oneOf(all...) + m.oneOf(" ", "(", "+", ".")
}

func (m *maker) bound(numbers []string) string {
	if len(numbers) == 0 || m.Intn(3) == 0 {
		return fmt.Sprint(m.Intn(9) - 4)
	}
	return m.oneOf("#"+m.oneOf(numbers...), "#("+m.oneOf(numbers...)+m.oneOf("+", "-")+m.oneOf("0", "3", "05")+")")
}

// makeChoices makes right choices for a generator.
func makeChoices(g front.Generator, r *rand.Rand) []front.Choice {
	var out []front.Choice
	for _, x := range g.Ints {
		out = append(out, front.Choice{Name: x.Name, Number: x.Low + r.Intn(x.High-x.Low+1)})
	}
	for _, name := range g.Kinds {
		out = append(out, front.Choice{Name: name, Kind: r.Intn(api.Kinds)})
	}
	return out
}
