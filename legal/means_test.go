package legal_test

import (
	"math/rand"
	"slices"
	"strconv"
	"testing"

	"halation/api"
	"halation/bound"
	"halation/expr"
	"halation/image"
	"halation/legal"
	"halation/mean"
	"halation/nest"
	"halation/sched"
	"halation/window"
)

// machine runs an accepted schedule as the document's chapters mean it: what is stored where, what is computed anew, and
// in which loops. Loops whose iterations are not one after the other are run in any order.
type machine struct {
	*testing.T
	*rand.Rand
	p, placed api.Pipeline
	s         api.Schedule
	b         api.Box
	images    map[string]api.Image
	params    []expr.Binding
	fns       map[string]*produced
	points    int
	failed    string
}

// produced is a placed function with what is stored of it now.
type produced struct {
	api.Func
	region  bound.Region
	storage window.Storage
	slide   window.Slide
	slides  bool
	nests   []nest.Nest
	paths   [][]bound.Loop
	axes    [][]api.Expr // the coordinates of the stages
	outer   []int        // the values of the store site
	held    map[int]uint64
}

func (m *machine) prepare() bool {
	regions, _ := bound.Regions(m.p, m.s, m.b)
	m.placed, _ = bound.Placed(m.p, m.s)
	m.fns = map[string]*produced{}
	for i, f := range m.placed.Funcs {
		x := &produced{Func: f, region: regions[i]}
		x.storage, _ = window.Stored(m.p, m.s, m.b, f.Name)
		x.slide, x.slides, _ = window.Sliding(m.p, m.s, m.b, f.Name)
		var box api.Box
		for _, d := range x.region.Dims {
			box = append(box, api.Range{Extent: d.Asked})
		}
		for k := range len(f.Updates) + 1 {
			n, _, _ := nest.Loops(m.p, m.s, nest.Stage{Func: f.Name, Number: k, Box: box})
			path, _ := bound.Path(m.p, m.s, m.b, f.Name, k)
			axes, err := bound.Coordinates(m.p, m.s, m.b, f.Name, k)
			if err != api.OK {
				return false
			}
			x.nests, x.paths, x.axes = append(x.nests, n), append(x.paths, path), append(x.axes, axes)
		}
		m.fns[f.Name] = x
	}
	inputs, err := bound.Inputs(m.p, m.s, m.b)
	if err != api.OK {
		return false
	}
	m.images = map[string]api.Image{}
	for _, in := range m.p.Inputs {
		box := make(api.Box, in.Dims)
		for _, x := range inputs {
			if x.Name == in.Name {
				box = x.Box
			}
		}
		size, _ := image.Size(box)
		data := make([]uint64, size)
		for i := range data {
			data[i] = uint64(m.Intn(map[int]int{api.Bool: 2, api.U8: 256}[in.Kind]))
		}
		m.images[in.Name], _ = image.Make(in.Kind, box, data)
	}
	for _, x := range m.p.Params {
		m.params = append(m.params, expr.Binding{Name: x.Name, Value: value(x.Kind, int(x.Low)+m.Intn(min(int(x.High), 9)-int(x.Low)+1))})
	}
	return true
}

// value returns a value of I32, or of a kind that holds a number.
func value(kind, n int) api.Value {
	bits := uint64(n)
	if kind == api.I32 {
		bits = uint64(uint32(int32(n)))
	}
	return api.Value{Kind: kind, Bits: bits}
}

func (m *machine) fail(why string, l ...any) {
	if m.failed == "" {
		m.failed = why
		m.Log(append([]any{why}, l...)...)
	}
}

// eval returns the value of an expression, whose calls read what is stored.
func (m *machine) eval(e api.Expr, bindings []expr.Binding) api.Value {
	for {
		at := slices.IndexFunc(e, func(n api.Node) bool { return n.Op == api.ECall || n.Op == api.EImage })
		if at < 0 {
			v, err := expr.Eval(e, bindings)
			if err != api.OK {
				m.Fatal("Eval", e, bindings, err)
			}
			return v[0]
		}
		n := e[at]
		var point []int
		for _, kid := range n.Kids {
			v := m.eval(part(e, kid), bindings)
			point = append(point, int(int32(v.Bits)))
		}
		v := m.read(n, point)
		var err api.Errno
		if e, err = expr.Replace(e, at, api.Expr{{Op: api.EConst, Kind: v.Kind, Lanes: 1, Bits: v.Bits}}); err != api.OK {
			m.Fatal("Replace", err)
		}
	}
}

// read returns what is stored at a point.
func (m *machine) read(n api.Node, point []int) api.Value {
	zero := api.Value{Kind: n.Kind}
	if n.Op == api.EImage {
		v, err := image.At(m.images[n.Name], point)
		if err != api.OK {
			m.fail("an input is read outside", n.Name, point)
			return zero
		}
		return v
	}
	f := m.fns[n.Name]
	i, err := window.Index(f.storage, f.outer, point)
	if err != api.OK {
		m.fail("a function is read outside", n.Name, f.outer, point, err)
		return zero
	}
	bits, ok := f.held[i]
	if !ok {
		m.fail("what was not stored is read", n.Name, f.outer, point)
	}
	return api.Value{Kind: n.Kind, Bits: bits}
}

// place does what is to be done in a place: what is stored and computed there, and what is inside.
func (m *machine) place(loops []bound.Loop, values []int, inside func()) {
	for _, f := range m.placed.Funcs {
		x := m.fns[f.Name]
		if slices.Equal(x.storage.Site, loops) {
			x.outer, x.held = slices.Clone(values), map[int]uint64{}
		}
	}
	for _, f := range m.placed.Funcs[:len(m.placed.Funcs)-1] {
		if x := m.fns[f.Name]; slices.Equal(x.region.Site, loops) {
			m.produce(x, values)
		}
	}
	inside()
}

// produce computes a function for values of its site.
func (m *machine) produce(f *produced, values []int) {
	for k := range f.paths {
		m.stage(f, k, values)
	}
}

// stage goes through the loops of a stage that are inside of some values.
func (m *machine) stage(f *produced, k int, values []int) {
	path := f.paths[k]
	if len(values) == len(path) {
		m.point(f, k, values)
		return
	}
	l := path[len(values)]
	own := f.nests[k].Loops[len(path)-1-len(values)]
	order := make([]int, l.Extent)
	for i := range order {
		order[i] = i
	}
	if own.Kind >= api.Vector {
		m.Shuffle(len(order), func(i, j int) { order[i], order[j] = order[j], order[i] })
	}
	for _, v := range order {
		next := append(slices.Clone(values), v)
		m.place(path[:len(next)], next, func() { m.stage(f, k, next) })
	}
}

// point computes one point of a stage.
func (m *machine) point(f *produced, k int, values []int) {
	if m.points++; m.points > 1500 || m.failed != "" {
		return
	}
	var own, path []expr.Binding
	n := f.nests[k]
	for i, l := range n.Loops {
		own = append(own, expr.Binding{Name: l.Name, Value: value(api.I32, values[len(values)-1-i])})
	}
	for i, v := range values {
		path = append(path, expr.Binding{Name: "s" + strconv.Itoa(i), Value: value(api.I32, v)})
	}
	for _, g := range n.Guards {
		if m.eval(g, own).Bits == 0 {
			return
		}
	}
	at := map[string]int{}
	bindings := slices.Clone(m.params)
	for i, a := range n.Axes {
		v := m.eval(f.axes[k][i], path)
		at[a.Name] = int(int32(v.Bits))
		bindings = append(bindings, expr.Binding{Name: a.Name, Value: v})
	}
	if f.slides && values[f.slide.Loop] > 0 {
		box, _ := bound.At(f.region, values[:len(f.region.Site)])
		r := box[f.slide.Dim]
		if at[f.Args[f.slide.Dim]] < r.Min+r.Extent-f.slide.Step {
			return
		}
	}
	var point []int
	e := f.Value
	if k == 0 {
		for _, arg := range f.Args {
			point = append(point, at[arg])
		}
	} else {
		u := f.Updates[k-1]
		e = u.Value
		if len(u.Where) > 0 && m.eval(u.Where, bindings).Bits == 0 {
			return
		}
		for _, left := range u.Left {
			point = append(point, int(int32(m.eval(left, bindings).Bits)))
		}
	}
	i, err := window.Index(f.storage, f.outer, point)
	if err != api.OK {
		m.fail("a function is stored outside", f.Name, k, values, point, err)
		return
	}
	v := m.eval(e, bindings)
	f.held[i] = v.Bits
}

// TestAcceptedMeans runs accepted schedules, and compares what they store with what the pipelines mean.
func TestAcceptedMeans(t *testing.T) {
	t.Parallel()
	const shards = 4
	for shard := range int64(shards) {
		t.Run("", func(t *testing.T) {
			t.Parallel()
			seen := map[string]int{}
			for seed := shard; seed < 1200; seed += shards {
				accepted(t, seed, seen)
			}
			for what, least := range map[string]int{"run": 20, "sites": 10, "folds": 1, "updates": 5} {
				if seen[what] < least {
					t.Error("rare", what, seen)
				}
			}
		})
	}
}

func accepted(t *testing.T, seed int64, seen map[string]int) {
	p, s, b, _ := made(seed)
	for _, f := range p.Funcs[:len(p.Funcs)-1] { // more of what slides and is folded
		for _, d := range []api.Directive{{Func: f.Name, Op: api.StoreRoot}, {Func: f.Name, Op: api.Fold, Vars: f.Args[len(f.Args)-1:], Factor: 4}} {
			if _, err := legal.Check(p, append(slices.Clone(s), d), b); err == api.OK && seed%3 > 0 {
				s = append(slices.Clone(s), d)
			}
		}
	}
	if _, err := legal.Check(p, s, b); err != api.OK {
		return
	}
	m := &machine{T: t, Rand: rand.New(rand.NewSource(seed)), p: p, s: s, b: b}
	if !m.prepare() {
		return
	}
	out := m.fns["out"]
	m.place(nil, nil, func() { m.produce(out, nil) })
	if m.points > 1500 {
		return
	}
	if m.failed != "" {
		t.Fatal(seed, m.failed)
	}
	var given api.Given
	for _, in := range p.Inputs {
		given.Images = append(given.Images, m.images[in.Name])
	}
	for _, x := range m.params {
		given.Params = append(given.Params, x.Value)
	}
	want, err := mean.Realize(p, given, b)
	if err == api.ErrBounds { // it means nothing: inlined functions do not read for what they do not use
		return
	}
	if err != api.OK {
		t.Fatal(seed, "Realize", err)
	}
	points, _ := image.Points(b)
	for i, at := range points {
		index, err := window.Index(out.storage, nil, at)
		if bits, ok := out.held[index]; err != api.OK || !ok || bits != want.Data[i] {
			text, _ := sched.Print(s)
			t.Fatal("another value", seed, at, bits, ok, want.Data[i], err, "\n"+text)
		}
	}
	seen["run"]++
	for _, f := range m.fns {
		seen["sites"] += min(1, len(f.region.Site))
		if f.slides {
			seen["slides"]++
		}
		if slices.ContainsFunc(f.storage.Dims, func(d window.Dim) bool { return d.Fold > 0 }) {
			seen["folds"]++
		}
		seen["updates"] += len(f.Updates)
	}
}
