package lower_test

import (
	"fmt"
	"math/rand"
	"slices"
	"strings"
	"testing"

	"halation/affine"
	"halation/api"
	"halation/bound"
	"halation/front"
	"halation/lang"
	"halation/legal"
	"halation/loop"
	"halation/lower"
	"halation/nest"
	"halation/num"
	"halation/sample"
	"halation/sched"
	"halation/window"
)

// made returns a pipeline, a schedule that is mostly accepted, an output box, and boxes of the inputs that are large enough.
func made(seed int64) (api.Pipeline, api.Schedule, api.Box, []api.Box, sample.Maker) {
	m := sample.Maker{Picker: rand.New(rand.NewSource(seed))}
	if seed%3 == 0 {
		p, s, b := chain(m)
		return p, s, b, boxes(p, s, b, m.Intn(2)), m
	}
	p := m.Pipeline()
	if m.Intn(2) == 0 {
		p = m.Stencils()
	}
	b := m.Box(p)
	s := m.Schedule(p, keeper(p, b))
	for _, f := range p.Funcs[:len(p.Funcs)-1] { // what has updates cannot be inlined
		if where, _ := sched.Plan(s, f.Name); where.Compute.Kind == sched.Inlined && len(f.Updates) > 0 && m.Intn(10) > 0 {
			s = append(s, api.Directive{Func: f.Name, Op: api.ComputeRoot})
		}
	}
	return p, s, b, boxes(p, s, b, m.Intn(2)), m
}

// keeper returns whether a schedule is to be kept: it is accepted, or will be when more functions are placed.
func keeper(p api.Pipeline, b api.Box) func(api.Schedule) bool {
	return func(s api.Schedule) bool {
		_, err := legal.Check(p, s, b)
		return err == api.OK || err == api.ErrState
	}
}

// chain returns a chain of stencils, of which many slide, and are folded.
func chain(m sample.Maker) (api.Pipeline, api.Schedule, api.Box) {
	one := func(l ...string) string { return l[m.Intn(len(l))] }
	near := func(f string) string {
		return fmt.Sprint(f, "(x", one("", " - 1", " - 2", " * 2"), ", y", one("", " + 1"), ") + ", f, "(x", one("", " + 1", " + 2", " * 2 + 1"), ", y", one("", " - 1", " + 2"), ")")
	}
	text := "pipeline p\ninput a u8 2\nparam k i32 0 3\nfunc f(x, y) i32 = i32(a[x, y]) - i32(a[x + 1, y + @k])\nfunc g(x, y) i32 = " + near("f") + "\n"
	if m.Intn(3) == 0 {
		text += "over r 1 3\nset r, y = g(r - 1, y) + f(r, y)\n"
	}
	p, at, _, err := front.Parse(text + "func out(x, y) i32 = " + near("g") + "\nend\n")
	if err != api.OK {
		panic(fmt.Sprint(text, at, err))
	}
	b := m.Box(p)
	keep := keeper(p, b)
	var s api.Schedule
	x, y := "x", "y"
	try := func(lines ...string) bool {
		more, _, err := sched.Parse(strings.Join(lines, "\n") + "\n")
		if longer := append(slices.Clone(s), more...); err == api.OK && keep(longer) {
			s = longer
			return true
		}
		return false
	}
	if m.Intn(2) == 0 && try("g compute_root", "f compute_root", fmt.Sprint("out.0 split x xo xi ", 1+m.Intn(4), " ", one("guard", "guard", "exact", "shift"))) {
		x = one("xo", "xo", "xi")
	}
	s = slices.DeleteFunc(s, func(d api.Directive) bool { return d.Op == api.ComputeRoot })
	if m.Intn(3) == 0 {
		try("g compute_root", "f compute_root", "out.0 reorder y "+x)
		s = slices.DeleteFunc(s, func(d api.Directive) bool { return d.Op == api.ComputeRoot })
	}
	loops := []string{"compute_root", "compute_at out " + x, "compute_at out " + y, "compute_at out " + x, "compute_at out " + y}
	if !try("g "+loops[m.Intn(5)], "f "+append(loops, "compute_at g x", "compute_at g y")[m.Intn(7)]) {
		try("g compute_root", "f compute_root")
	}
	for _, f := range []string{"g", "f"} {
		try(f + one(" store_root", " store_root", " store_at out y", " memoize"))
		try(fmt.Sprint(f, " fold ", one("x", "y"), " ", 2+m.Intn(5)))
		try(f + one(".0 parallel y", ".0 unroll x", ".0 vectorize x", ".0 split y yo yi 2 guard", ".0 split x xo xi 2 round_up"))
	}
	try("out.0 " + one("parallel", "vectorize", "blocks", "unroll") + " " + one(x, y))
	try("out.0 threads " + one(x, y))
	return p, s, b
}

// boxes returns boxes of the inputs with some more points on each side.
func boxes(p api.Pipeline, s api.Schedule, b api.Box, more int) []api.Box {
	read, _ := bound.Inputs(p, s, b)
	var out []api.Box
	for _, in := range p.Inputs {
		box := make(api.Box, in.Dims)
		for i := range box {
			box[i].Extent = 1
		}
		for _, x := range read {
			if x.Name == in.Name {
				box = slices.Clone(x.Box)
			}
		}
		box[0].Min, box[0].Extent = box[0].Min-more, min(64, box[0].Extent+2*more)
		out = append(out, box)
	}
	return out
}

// written is the text of a lowered program in the document's words.
type written struct {
	strings.Builder
	t       *testing.T
	p       api.Pipeline
	placed  api.Pipeline
	s       api.Schedule
	b       api.Box
	inputs  []api.Box
	regions []bound.Region
	stored  []window.Storage
	decls   []lang.Decl
}

func writtenOf(t *testing.T, p api.Pipeline, s api.Schedule, b api.Box, inputs []api.Box) *written {
	w := &written{t: t, p: p, s: s, b: b, inputs: inputs}
	w.placed, _ = bound.Placed(p, s)
	w.regions, _ = bound.Regions(p, s, b)
	for _, f := range w.placed.Funcs {
		x, _ := window.Stored(p, s, b, f.Name)
		w.stored = append(w.stored, x)
	}
	return w
}

func kindName(kind int) string {
	s, _ := num.Name(kind)
	return s
}

// coordinate returns the name of the coordinate that a variable of a stage is.
func (w *written) coordinate(f, stage int, name string) string {
	fn := w.placed.Funcs[f]
	var vars []string
	for i, arg := range fn.Args {
		left := api.Expr(nil)
		if stage > 0 {
			left = fn.Updates[stage-1].Left[i]
		}
		if stage == 0 || len(left) == 1 && left[0].Op == api.EVar && left[0].Name == arg {
			vars = append(vars, arg)
		}
	}
	if stage > 0 {
		for _, a := range fn.Updates[stage-1].Domain {
			vars = append(vars, a.Name)
		}
	}
	return fmt.Sprint("t", slices.Index(vars, name))
}

// address returns the text of the element of a point.
func (w *written) address(x window.Storage, point []string) string {
	out, step := "", 1
	for i, d := range x.Dims {
		low, _ := affine.Expr(d.Min)
		text, _ := lang.Print(low, nil)
		at, size := "("+point[i]+") - ("+text+")", d.Extent
		if d.Fold > 0 {
			at, size = fmt.Sprint("(", at, ") % ", d.Fold), d.Fold
		}
		if i == 0 {
			out = "(" + at + ")"
		} else {
			out = fmt.Sprint("(", out, " + (", at, ") * ", step, ")")
		}
		step *= size
	}
	return out
}

// expression returns the text of a node of a stage in the program.
func (w *written) expression(f, stage int, e api.Expr, at int) string {
	n := e[at]
	var kids []string
	for _, kid := range n.Kids {
		kids = append(kids, w.expression(f, stage, e, kid))
	}
	words := map[int]string{api.EMin: "min", api.EMax: "max", api.ESatAdd: "sat_add", api.ESatSub: "sat_sub", api.EAvg: "avg", api.EDist: "dist", api.ESelect: "select", api.ECast: kindName(n.Kind), api.ESat: "sat_" + kindName(n.Kind), api.ENot: "!"}
	switch n.Op {
	case api.EConst:
		s, _ := lang.Literal(api.Value{Kind: n.Kind, Bits: n.Bits})
		return s
	case api.EVar:
		return w.coordinate(f, stage, n.Name)
	case api.EParam:
		i := slices.IndexFunc(w.p.Params, func(x api.Param) bool { return x.Name == n.Name })
		return fmt.Sprint("@p", i, ".", kindName(n.Kind))
	case api.EImage:
		i := slices.IndexFunc(w.p.Inputs, func(x api.Input) bool { return x.Name == n.Name })
		x := window.Storage{}
		for _, r := range w.inputs[i] {
			x.Dims = append(x.Dims, window.Dim{Min: affine.Form{Const: r.Min}, Extent: r.Extent})
		}
		return fmt.Sprint("i", i, ".", kindName(n.Kind), "{", w.address(x, kids), "}")
	case api.ECall:
		g := slices.IndexFunc(w.placed.Funcs, func(x api.Func) bool { return x.Name == n.Name })
		return fmt.Sprint("f", g, ".", kindName(n.Kind), "{", w.address(w.stored[g], kids), "}")
	}
	if word, ok := words[n.Op]; ok {
		return word + "(" + strings.Join(kids, ", ") + ")"
	}
	sign, _, err := lang.Sign(n.Op)
	if err != api.OK {
		w.t.Fatal("no sign", n.Op)
	}
	return "((" + kids[0] + ") " + sign + " (" + kids[1] + "))"
}

func (w *written) whole(f, stage int, e api.Expr) string {
	return w.expression(f, stage, e, len(e)-1)
}

func (w *written) line(depth int, parts ...string) {
	w.WriteString(strings.Repeat("  ", depth) + strings.Join(parts, "") + "\n")
}

// text returns the text of an expression as it is printed where the program is.
func (w *written) text(s string) string {
	out, at, err := lang.Format(s, w.decls)
	if err != api.OK {
		w.t.Fatal("Format", s, at, err)
	}
	return out
}

// opened writes a line of a statement, what is in it, and its end.
func (w *written) opened(depth int, line string, inside func(depth int)) {
	w.line(depth, line, " {")
	inside(depth + 1)
	w.line(depth, "}")
}

// point writes the statements of one point.
func (w *written) point(depth, f, stage int) {
	fn := w.placed.Funcs[f]
	path, _ := bound.Path(w.p, w.s, w.b, fn.Name, stage)
	n := w.nest(f, stage)
	if len(n.Guards) > 0 {
		var l []string
		for _, g := range n.Guards {
			for i := range n.Loops { // not one after the other: a loop may have the name of a variable of the path
				g = renamed(g, n.Loops[i].Name, fmt.Sprint("#", len(path)-1-i))
			}
			for i := range path {
				g = renamed(g, fmt.Sprint("#", i), fmt.Sprint("s", i))
			}
			s, _ := lang.Print(g, nil)
			l = append(l, "("+s+")")
		}
		w.opened(depth, "if "+w.text(strings.Join(l, " & ")), func(depth int) { w.lets(depth, f, stage) })
		return
	}
	w.lets(depth, f, stage)
}

func renamed(e api.Expr, from, to string) api.Expr {
	out := slices.Clone(e)
	for i := range out {
		if out[i].Op == api.EVar && out[i].Name == from {
			out[i].Name = to
		}
	}
	return out
}

func (w *written) nest(f, stage int) nest.Nest {
	box := make(api.Box, len(w.regions[f].Dims))
	for i, d := range w.regions[f].Dims {
		box[i].Extent = d.Asked
	}
	n, _, err := nest.Loops(w.p, w.s, nest.Stage{Func: w.placed.Funcs[f].Name, Number: stage, Box: box})
	if err != api.OK {
		w.t.Fatal("Loops", err)
	}
	return n
}

func (w *written) lets(depth, f, stage int) {
	l, _ := bound.Coordinates(w.p, w.s, w.b, w.placed.Funcs[f].Name, stage)
	var write func(depth, i int)
	write = func(depth, i int) {
		if i == len(l) {
			w.fresh(depth, f, stage)
			return
		}
		s, _ := lang.Print(l[i], nil)
		w.opened(depth, fmt.Sprint("let t", i, " ; ", s), func(depth int) { write(depth, i+1) })
	}
	write(depth, 0)
}

func (w *written) fresh(depth, f, stage int) {
	slide, is, _ := window.Sliding(w.p, w.s, w.b, w.placed.Funcs[f].Name)
	if !is || stage > 0 {
		w.store(depth, f, stage)
		return
	}
	d := w.regions[f].Dims[slide.Dim]
	low, _ := affine.Expr(d.Min)
	s, _ := lang.Print(low, nil)
	w.opened(depth, "if "+w.text(fmt.Sprint("(s", slide.Loop, " == 0) | ((", s, ") + ", d.Extent-slide.Step, " <= t", slide.Dim, ")")), func(depth int) { w.store(depth, f, stage) })
}

func (w *written) store(depth, f, stage int) {
	fn := w.placed.Funcs[f]
	var at []string
	value, where := fn.Value, api.Expr(nil)
	if stage == 0 {
		for _, arg := range fn.Args {
			at = append(at, w.coordinate(f, stage, arg))
		}
	} else {
		u := fn.Updates[stage-1]
		value, where = u.Value, u.Where
		for _, left := range u.Left {
			at = append(at, w.whole(f, stage, left))
		}
	}
	more := ""
	if len(where) > 0 {
		more = " ; " + w.text(w.whole(f, stage, where))
	}
	w.line(depth, fmt.Sprint("store f", f, " ; "), w.text(w.address(w.stored[f], at)), " ; ", w.text(w.whole(f, stage, value)), more)
}

// place writes what is in the place inside of some loops: what there is to do, behind what is computed there.
func (w *written) place(depth int, loops []bound.Loop, do func(depth int)) {
	last := len(w.placed.Funcs) - 1
	var here []int
	for f := range last {
		if slices.Equal(w.regions[f].Site, loops) {
			here = append(here, f)
		}
	}
	inside := do
	if len(here) > 0 {
		inside = func(depth int) {
			w.opened(depth, "block", func(depth int) {
				for _, f := range here {
					w.production(depth, f)
				}
				do(depth)
			})
		}
	}
	var alloc func(depth, f int)
	alloc = func(depth, f int) {
		switch {
		case f == last:
			inside(depth)
		case slices.Equal(w.stored[f].Site, loops):
			kind := w.placed.Funcs[f].Kind
			w.decls = append(w.decls, lang.Decl{Op: api.ELoad, Name: fmt.Sprint("f", f), Kind: kind})
			w.opened(depth, fmt.Sprint("alloc f", f, " ", kindName(kind), " ", w.stored[f].Elements), func(depth int) { alloc(depth, f+1) })
			w.decls = w.decls[:len(w.decls)-1]
		default:
			alloc(depth, f+1)
		}
	}
	alloc(depth, 0)
}

func (w *written) production(depth, f int) {
	fn := w.placed.Funcs[f]
	words := []string{"for", "unrolled", "vector", "tasks", "grid", "lane"}
	w.opened(depth, fmt.Sprint("mark f", f), func(depth int) {
		w.opened(depth, "block", func(depth int) {
			for stage := range len(fn.Updates) + 1 {
				path, _ := bound.Path(w.p, w.s, w.b, fn.Name, stage)
				n := w.nest(f, stage)
				var loops func(depth, i int)
				loops = func(depth, i int) {
					if i == len(path) {
						w.point(depth, f, stage)
						return
					}
					kind := n.Loops[len(path)-1-i].Kind
					w.opened(depth, fmt.Sprint(words[kind], " s", i, " ; 0 ; ", path[i].Extent), func(depth int) {
						w.place(depth, path[:i+1], func(depth int) { loops(depth, i+1) })
					})
				}
				loops(depth, len(w.regions[f].Site))
			}
		})
	})
}

// program returns the text of the whole.
func (w *written) program() string {
	for i, x := range w.p.Params {
		w.decls = append(w.decls, lang.Decl{Op: api.EParam, Name: fmt.Sprint("p", i), Kind: x.Kind})
	}
	buffer := func(name string, kind int, b api.Box) {
		var l []string
		for _, r := range b {
			l = append(l, fmt.Sprint(r.Min, ":", r.Extent))
		}
		w.line(0, "buffer ", name, " ", kindName(kind), " ", strings.Join(l, ", "))
		w.decls = append(w.decls, lang.Decl{Op: api.ELoad, Name: name, Kind: kind})
	}
	for i, in := range w.p.Inputs {
		buffer(fmt.Sprint("i", i), in.Kind, w.inputs[i])
	}
	last := len(w.placed.Funcs) - 1
	buffer(fmt.Sprint("f", last), w.placed.Funcs[last].Kind, w.b)
	for i, x := range w.p.Params {
		w.line(0, fmt.Sprint("param p", i, " ", kindName(x.Kind), " ", x.Low, " ", x.High))
	}
	w.place(0, nil, func(depth int) { w.production(depth, last) })
	return w.String()
}

// compareWritten compares a lowered program with what the document says in other words.
func compareWritten(t *testing.T, seed int64, seen map[string]int, w *written, got api.Program) {
	t.Helper()
	want := w.program()
	if text, err := loop.Print(got); text != want || err != api.OK {
		schedule, _ := sched.Print(w.s)
		t.Fatal(seed, err, schedule, text, "\nnot\n", want)
	}
	compareBuffers(t, seed, w)
	for f, fn := range w.placed.Funcs {
		seen["sites"] += min(1, len(w.regions[f].Site))
		seen["store sites"] += min(1, len(w.stored[f].Site))
		seen["updates"] += len(fn.Updates)
		if _, is, _ := window.Sliding(w.p, w.s, w.b, fn.Name); is {
			seen["slides"]++
		}
		if slices.ContainsFunc(w.stored[f].Dims, func(d window.Dim) bool { return d.Fold > 0 }) {
			seen["folds"]++
		}
		for stage := range len(fn.Updates) + 1 {
			n := w.nest(f, stage)
			seen["guards"] += len(n.Guards)
			for _, l := range n.Loops {
				seen[fmt.Sprint("kind ", l.Kind)]++
			}
			if seed%7 == 0 { // it takes long
				compareStage(t, seed, w, got, f, stage)
				seen["stages"]++
			}
		}
	}
}

func compareBuffers(t *testing.T, seed int64, w *written) {
	t.Helper()
	l, err := lower.Buffers(w.p, w.s, w.b, w.inputs)
	if len(l) != len(w.p.Inputs)+len(w.placed.Funcs) || err != api.OK {
		t.Fatal(seed, "Buffers", l, err)
	}
	for i, in := range w.p.Inputs {
		x := l[i]
		size := 1
		for k, d := range x.Storage.Dims {
			r := w.inputs[i][k]
			size *= r.Extent
			if len(d.Min.Terms) > 0 || d.Min.Const != r.Min || d.Extent != r.Extent || d.Fold != 0 {
				t.Fatal(seed, "an input's box", x)
			}
		}
		if x.Of != in.Name || x.Buffer != fmt.Sprint("i", i) || x.IsFunc || x.Kind != in.Kind || x.Storage.Func != "" || len(x.Storage.Site) > 0 || len(x.Storage.Dims) != in.Dims || x.Storage.Elements != size {
			t.Fatal(seed, "an input", x)
		}
	}
	for f, fn := range w.placed.Funcs {
		x := l[len(w.p.Inputs)+f]
		if x.Of != fn.Name || x.Buffer != fmt.Sprint("f", f) || !x.IsFunc || x.Kind != fn.Kind || fmt.Sprint(x.Storage) != fmt.Sprint(w.stored[f]) {
			t.Fatal(seed, "a function", x)
		}
	}
}

// compareStage compares the parts of a stage with texts, and its statements with those of the program.
func compareStage(t *testing.T, seed int64, w *written, program api.Program, f, stage int) {
	t.Helper()
	fn := w.placed.Funcs[f]
	parts := map[int]api.Expr{0: fn.Value}
	if stage > 0 {
		u := fn.Updates[stage-1]
		parts[0] = u.Value
		for i, left := range u.Left {
			parts[1+i] = left
		}
		if len(u.Where) > 0 {
			parts[4] = u.Where
		}
	}
	for part := -1; part < 7; part++ {
		e, ok := parts[part]
		v, err := lower.Value(w.p, w.s, w.b, w.inputs, fn.Name, stage, part)
		if !ok {
			if err != api.ErrUnknown || len(v) > 0 {
				t.Fatal(seed, fn.Name, stage, part, v, err)
			}
			continue
		}
		text, _ := lang.Print(v, nil)
		want, _, _ := lang.Format(w.whole(f, stage, e), nil)
		if text != want || err != api.OK {
			t.Fatal(seed, fn.Name, stage, part, err, text, "not", want)
		}
	}
	l, err := lower.Stage(w.p, w.s, w.b, w.inputs, fn.Name, stage)
	if err != api.OK || len(l) == 0 || l[0].Op != api.SStore {
		t.Fatal(seed, fn.Name, stage, l, err)
	}
	// a store of the function has these statements around it
	for at := range program.Stmts {
		if at+len(l) > len(program.Stmts) {
			break
		}
		is := true
		for i, x := range l {
			y := program.Stmts[at+i]
			kids := slices.Clone(x.Kids)
			for k := range kids {
				kids[k] += at
			}
			is = is && x.Op == y.Op && x.Name == y.Name && slices.Equal(kids, y.Kids) && fmt.Sprint(x.Exprs) == fmt.Sprint(y.Exprs)
		}
		if up, _ := loop.Parent(program, at+len(l)-1); is && up >= 0 && (program.Stmts[up].Op == api.SFor || program.Stmts[up].Op == api.SBlock || program.Stmts[up].Op == api.SAlloc) {
			return
		}
	}
	t.Fatal(seed, fn.Name, stage, "these statements are not there", l)
}
