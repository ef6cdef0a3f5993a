package bound_test

import (
	"math/rand"
	"slices"
	"testing"

	"halation/api"
	"halation/bound"
	"halation/expr"
	"halation/sample"
	"halation/sched"
)

// made returns a pipeline, a schedule and a box, which have regions more often than not.
func made(seed int64) (api.Pipeline, api.Schedule, api.Box, sample.Maker) {
	m := sample.Maker{Picker: rand.New(rand.NewSource(seed))}
	p := m.Pipeline()
	b := m.Box(p)
	if m.Intn(20) == 0 {
		b[m.Intn(len(b))].Extent = 0
	}
	strict := m.Intn(4) > 0
	s := m.Schedule(p, func(s api.Schedule) bool {
		if _, err := sched.CheckFor(p, s); err != api.OK {
			return false
		}
		_, err := bound.Regions(p, s, b)
		return !strict || err == api.OK || err == api.ErrState
	})
	return p, s, b, m
}

// Promises P15.1 and P15.2.

func TestMade(t *testing.T) {
	t.Parallel()
	seen := map[api.Errno]int{}
	inputs := map[api.Errno]int{}
	for seed := range int64(1000) {
		p, s, b, _ := made(seed)
		o, want := infer(p, s, b)
		seen[want]++
		regions, err := bound.Regions(p, s, b)
		whole_, err2 := bound.Whole(p, s, b)
		if err != want || err2 != want || want != api.OK && (len(regions) > 0 || len(whole_) > 0) {
			t.Fatal(seed, err, err2, want, len(regions), len(whole_))
		}
		if want != api.OK {
			in, err := bound.Inputs(p, s, b)
			path, err2 := bound.Path(p, s, b, "out", 0)
			l, err3 := bound.Coordinates(p, s, b, "out", 0)
			if err != want || err2 != want || err3 != want || bound.CheckInputs(p, s, b, nil) != want || len(in)+len(path)+len(l) > 0 {
				t.Fatal(seed, err, err2, err3, want, in, path, l)
			}
			continue
		}
		var wantRegions []bound.Region
		var wantWhole []bound.Named
		for _, f := range o.placed.Funcs {
			x := o.fns[f.Name]
			wantRegions = append(wantRegions, x.region)
			wantWhole = append(wantWhole, bound.Named{Name: f.Name, Box: whole(x.region)})
			for stage := range len(f.Updates) + 1 {
				path, err := bound.Path(p, s, b, f.Name, stage)
				if text(path) != text(x.paths[stage]) || err != api.OK {
					t.Fatal("Path", seed, f.Name, stage, path, err, x.paths[stage])
				}
				var l []api.Expr
				by := o.variables(f, stage)
				for _, a := range x.nests[stage].Axes {
					l = append(l, by[a.Name])
				}
				got, err := bound.Coordinates(p, s, b, f.Name, stage)
				if texts(got) != texts(l) || err != api.OK {
					t.Fatal("Coordinates", seed, f.Name, stage, got, err, l)
				}
			}
		}
		if texts(regions) != texts(wantRegions) || texts(whole_) != texts(wantWhole) {
			t.Fatal("Regions", seed, texts(regions), texts(wantRegions), texts(whole_), texts(wantWhole))
		}
		wantInputs, want := o.inputs()
		inputs[want]++
		in, err := bound.Inputs(p, s, b)
		if texts(in) != texts(wantInputs) || err != want {
			t.Fatal("Inputs", seed, texts(in), err, texts(wantInputs), want)
		}
	}
	if seen[api.OK] < 500 || seen[api.ErrLevel] < 30 || seen[api.ErrLarge] < 2 || seen[api.ErrBounds] < 4 || seen[api.ErrOpen] < 1 || inputs[api.ErrLarge] < 10 {
		t.Error("rare", seen, inputs)
	}
}

// Promise P15.3.

// within reports whether a point is one of a box.
func within(p []int, b api.Box) bool {
	for i, r := range b {
		if p[i] < r.Min || p[i] >= r.Min+r.Extent {
			return false
		}
	}
	return len(p) == len(b)
}

// run is a stage at values of the variables of its path.
type run struct {
	*testing.T
	o      *oracle
	m      sample.Maker
	params map[string]int
	values []int
}

// value returns the value of an expression by the variables of a path, in which whatever is read has any value.
func (r run) value(e api.Expr) int {
	var bindings []expr.Binding
	bind := func(name string, kind, v int) {
		bits := uint64(v)
		if kind == api.I32 {
			bits = uint64(uint32(int32(v)))
		}
		bindings = append(bindings, expr.Binding{Name: name, Value: api.Value{Kind: kind, Bits: bits}})
	}
	for i := len(e) - 1; i >= 0; i-- {
		if n := e[i]; n.Op == api.ECall || n.Op == api.EImage {
			v := r.m.Intn(2)
			if n.Kind == api.U8 {
				v = r.m.Intn(256)
			} else if n.Kind == api.I32 {
				v = int(int32(r.m.Intn(1 << 32)))
			}
			out, err := expr.Replace(e, i, api.Expr{{Op: api.EConst, Kind: n.Kind, Lanes: 1, Bits: uint64(uint32(v))}})
			if err != api.OK {
				r.Fatal("Replace", e, i, err)
			}
			e = out
			i = len(e) // from the last one again
		}
	}
	for i, v := range r.values {
		bind(variable(i)[0].Name, api.I32, v)
	}
	for _, x := range r.o.p.Params {
		if x.Kind != api.I64 {
			bind(x.Name, x.Kind, r.params[x.Name])
		}
	}
	v, err := expr.Eval(e, bindings)
	if err != api.OK {
		r.Fatal("Eval", e, err)
	}
	if v[0].Kind == api.Bool {
		return int(v[0].Bits)
	}
	return int(int32(v[0].Bits))
}

// point returns the values of the coordinates of a node.
func (r run) point(e api.Expr, n api.Node, by map[string]api.Expr) []int {
	var out []int
	for _, kid := range n.Kids {
		out = append(out, r.value(put(e, kid, by)))
	}
	return out
}

// box returns that of a function for the values of its site.
func (r run) box(name string) api.Box {
	for _, x := range r.o.fns {
		if x.region.Func == name {
			b, err := bound.At(x.region, r.values[:len(x.region.Site)])
			if err != api.OK {
				r.Fatal("At", name, r.values, err)
			}
			return b
		}
	}
	return nil
}

// TestReadsAreInside goes through values of the loops, and looks where what is read, and what is stored, is.
func TestReadsAreInside(t *testing.T) {
	t.Parallel()
	count, sites := 0, 0
	for seed := range int64(700) {
		p, s, b, m := made(seed)
		o, err := infer(p, s, b)
		if err != api.OK {
			continue
		}
		boxes := map[string]api.Box{}
		in, err := bound.Inputs(p, s, b)
		for _, x := range in {
			boxes[x.Name] = x.Box
		}
		all, _ := bound.Whole(p, s, b)
		for _, x := range all {
			boxes[x.Name] = x.Box
		}
		r := run{T: t, o: o, m: m}
		for _, f := range o.placed.Funcs {
			for stage := range len(f.Updates) + 1 {
				by := o.variables(f, stage)
				path := o.fns[f.Name].paths[stage]
			values:
				for range 12 {
					r.params = map[string]int{}
					for _, x := range p.Params {
						r.params[x.Name] = int(x.Low) + m.Intn(min(int(x.High), 9)-int(x.Low)+1)
					}
					r.values = nil
					for _, l := range path {
						if l.Extent == 0 {
							break values
						}
						r.values = append(r.values, []int{0, l.Extent - 1, m.Intn(l.Extent)}[m.Intn(3)])
					}
					count++
					sites += min(1, len(o.fns[f.Name].site))
					own := r.box(f.Name)
					for _, rg := range own {
						if rg.Extent == 0 && f.Name != "out" {
							t.Fatal("nothing", seed, f.Name, own)
						}
					}
					for i, rg := range own {
						w := boxes[f.Name][i]
						if rg.Min < w.Min || rg.Min+rg.Extent > w.Min+w.Extent {
							t.Fatal("whole", seed, f.Name, own, boxes[f.Name])
						}
					}
					isMet := r.isMet(f, stage)
					if isMet {
						r.stored(f, stage, by, own)
					}
					for _, e := range expressions(f, stage) {
						for _, n := range e {
							switch {
							case n.Op == api.ECall && n.Name == f.Name:
								// in a dimension that is pure this is the point itself
								pure := r.isPure(f, stage)
								for i, at := range r.point(e, n, by) {
									if isMet && !pure[i] && (at < own[i].Min || at >= own[i].Min+own[i].Extent) {
										t.Fatal("self-call", seed, f.Name, stage, at, own, r.values)
									}
								}
							case n.Op == api.ECall:
								if at := r.point(e, n, by); !within(at, r.box(n.Name)) {
									t.Fatal("call", seed, f.Name, stage, n.Name, at, r.box(n.Name), r.values)
								}
							case n.Op == api.EImage && err == api.OK:
								if at := r.point(e, n, by); !within(at, boxes[n.Name]) {
									t.Fatal("input", seed, f.Name, stage, n.Name, at, boxes[n.Name], r.values)
								}
							}
						}
					}
				}
			}
		}
	}
	if count < 8000 || sites < 1500 {
		t.Error("rare", count, sites)
	}
}

func (r run) isPure(f api.Func, stage int) []bool {
	out := make([]bool, len(f.Args))
	for i, arg := range f.Args {
		out[i] = stage == 0 || len(f.Updates[stage-1].Left[i]) == 1 && f.Updates[stage-1].Left[i][0].Name == arg
	}
	return out
}

// isMet reports whether the guards of a stage's nest hold.
func (r run) isMet(f api.Func, stage int) bool {
	x := r.o.fns[f.Name]
	names := map[string]api.Expr{}
	for i, l := range x.nests[stage].Loops {
		names[l.Name] = variable(len(r.values) - 1 - i)
	}
	return !slices.ContainsFunc(x.nests[stage].Guards, func(g api.Expr) bool { return r.value(put(g, len(g)-1, names)) == 0 })
}

// stored asks whether the point that a stage stores is in its own box.
func (r run) stored(f api.Func, stage int, by map[string]api.Expr, own api.Box) {
	for i, arg := range f.Args {
		e := api.Expr{{Op: api.EVar, Kind: api.I32, Lanes: 1, Name: arg}}
		if stage > 0 {
			e = f.Updates[stage-1].Left[i]
		}
		if at := r.value(put(e, len(e)-1, by)); at < own[i].Min || at >= own[i].Min+own[i].Extent {
			r.Fatal("stored", f.Name, stage, arg, at, own, r.values)
		}
	}
}

// TestRoots asks for regions without loops, and for boxes that grow.
func TestRoots(t *testing.T) {
	t.Parallel()
	grown := 0
	for seed := range int64(700) {
		p, s, b, m := made(seed)
		var roots api.Schedule
		for _, f := range p.Funcs[:len(p.Funcs)-1] {
			roots = append(roots, api.Directive{Func: f.Name, Op: api.ComputeRoot})
		}
		l, _ := bound.Regions(p, roots, b)
		for _, r := range l {
			if len(r.Site) > 0 {
				t.Fatal("a site", seed, r)
			}
			for _, d := range r.Dims {
				if len(d.Min.Terms) > 0 {
					t.Fatal("terms", seed, r)
				}
			}
		}
		isLimited := false
		for _, d := range s {
			isLimited = isLimited || d.Op == api.Bound
		}
		if isLimited {
			continue
		}
		if slices.ContainsFunc(s, func(d api.Directive) bool { return d.Op == api.Split }) {
			s = roots // tails have more points, which move with the box
		}
		isEmpty := slices.ContainsFunc(b, func(r api.Range) bool { return r.Extent == 0 })
		larger := slices.Clone(b)
		for i := range larger {
			low, high := m.Intn(3), m.Intn(3)
			if isEmpty { // a box without points has no place
				low = 0
			}
			larger[i].Min -= low
			larger[i].Extent += low + high
		}
		for _, s := range []api.Schedule{s, roots} {
			small, err := bound.Whole(p, s, b)
			large, err2 := bound.Whole(p, s, larger)
			if err != api.OK || err2 != api.OK {
				continue
			}
			for i, x := range small {
				for k, r := range x.Box {
					g := large[i].Box[k]
					if r.Extent > 0 && (g.Min > r.Min || g.Min+g.Extent < r.Min+r.Extent) {
						t.Fatal("smaller", seed, small, large)
					}
				}
			}
			grown++
		}
	}
	if grown < 500 {
		t.Error("rare", grown)
	}
}
