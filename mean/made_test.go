package mean_test

import (
	"fmt"
	"math/rand"
	"slices"
	"strings"
	"testing"

	"halation/api"
	"halation/expr"
	"halation/image"
	"halation/mean"
	"halation/num"
	"halation/pipe"
)

// maker makes right pipelines, and what they are given.
type maker struct {
	*rand.Rand
	p       api.Pipeline
	earlier int    // how many functions may be called
	self    string // what stands for a self-call in an update
}

func (m *maker) oneOf(l ...string) string { return l[m.Intn(len(l))] }

var kindNames = []string{"bool", "u8", "u16", "u32", "u64", "i8", "i16", "i32", "i64", "f32", "c64"}

// integer returns the text of an expression of the kind I32 in some variables.
func (m *maker) integer(vars []string, depth int) string {
	switch choice := m.Intn(11); {
	case choice < 2 && len(vars) > 0:
		return m.oneOf(vars...)
	case choice < 3 || depth == 0:
		return fmt.Sprint(m.Intn(9) - 4)
	case choice == 3 && m.self != "":
		return "i32(" + m.self + ")"
	case choice == 4 && len(m.p.Inputs) > 0:
		in := m.p.Inputs[m.Intn(len(m.p.Inputs))]
		return "i32(" + in.Name + "[" + m.coordinates(vars, in.Dims, depth) + "])"
	case choice == 5 && len(m.p.Params) > 0:
		return "i32(@" + m.p.Params[m.Intn(len(m.p.Params))].Name + ")"
	case (choice == 6 || choice == 7) && m.earlier > 0:
		f := m.p.Funcs[m.Intn(m.earlier)]
		return "i32(" + f.Name + "(" + m.coordinates(vars, len(f.Args), depth) + "))"
	case choice == 8:
		return "select(" + m.integer(vars, depth-1) + m.oneOf(" < ", " == ", " <= ") + m.integer(vars, depth-1) + ", " + m.integer(vars, depth-1) + ", " + m.integer(vars, depth-1) + ")"
	case choice == 9:
		return m.oneOf("min(", "max(", "sat_add(", "avg(") + m.integer(vars, depth-1) + ", " + m.integer(vars, depth-1) + ")"
	}
	return "(" + m.integer(vars, depth-1) + m.oneOf(" + ", " - ", " * ", " / ", " % ", " & ") + m.integer(vars, depth-1) + ")"
}

// coordinates returns a list of expressions, most of which stay small.
func (m *maker) coordinates(vars []string, dims, depth int) string {
	var l []string
	for range dims {
		s := m.integer(vars, depth-1)
		switch choice := m.Intn(60); {
		case choice == 0:
			s = "(" + s + ") * 300000"
		case choice < 40:
			s = "(" + s + ") % 7 - 2"
		}
		l = append(l, s)
	}
	return strings.Join(l, ", ")
}

func makePipeline(seed int64) (api.Pipeline, api.Given) {
	m := &maker{Rand: rand.New(rand.NewSource(seed)), p: api.Pipeline{Name: "made"}}
	var g api.Given
	for i := range m.Intn(3) {
		in := api.Input{Name: fmt.Sprint("in", i), Kind: m.Intn(api.C64), Dims: 1 + m.Intn(3)}
		m.p.Inputs = append(m.p.Inputs, in)
		g.Images = append(g.Images, m.image(in))
	}
	for i := range m.Intn(3) {
		x := api.Param{Name: fmt.Sprint("p", i), Kind: m.Intn(api.C64), High: 1}
		m.p.Params = append(m.p.Params, x)
		v, _ := num.Cast(x.Kind, api.Value{Kind: api.I64, Bits: uint64(m.Intn(2))})
		g.Params = append(g.Params, v)
	}
	for i := range 1 + m.Intn(5) {
		f := api.Func{Name: fmt.Sprint("f", i), Args: []string{"x", "y", "z"}[:1+m.Intn(3)], Kind: m.Intn(api.C64)}
		f.Value = exprOf(m.p, kindNames[f.Kind]+"("+m.integer(f.Args, 2)+")")
		m.p.Funcs = append(m.p.Funcs, f)
		for range m.Intn(4) {
			m.update(f)
		}
		m.earlier++
	}
	return m.p, g
}

// image makes an image in which most coordinates are, often with other strides than those of a dense one.
func (m *maker) image(in api.Input) api.Image {
	b := make(api.Box, in.Dims)
	for i := range b {
		b[i] = api.Range{Min: -3 - m.Intn(4), Extent: 11 + m.Intn(4)}
	}
	size, _ := image.Size(b)
	data := make([]uint64, size)
	for i := range data {
		v, _ := num.Cast(in.Kind, api.Value{Kind: api.I8, Bits: uint64(m.Intn(256))})
		data[i] = v.Bits
	}
	im := dense(in.Kind, b, data...)
	if in.Dims > 1 && m.Intn(2) == 0 { // the dimensions exchanged, with the strides that they had
		im.Box[0], im.Box[1] = im.Box[1], im.Box[0]
		im.Strides[0], im.Strides[1] = im.Strides[1], im.Strides[0]
		im.Data = append(im.Data, data[:1+m.Intn(9)]...)
	}
	return im
}

func (m *maker) update(f api.Func) {
	var domain []api.Axis
	var vars []string
	for i := range m.Intn(3) {
		domain = append(domain, axis(fmt.Sprint("r", i), m.Intn(5)-2, 1+m.Intn(4)))
		vars = append(vars, domain[i].Name)
	}
	left, self := make([]string, len(f.Args)), make([]string, len(f.Args))
	isPure := make([]bool, len(f.Args))
	for i, arg := range f.Args {
		if isPure[i] = m.Intn(2) == 0; isPure[i] {
			vars = append(vars, arg)
		}
	}
	for i, arg := range f.Args {
		left[i], self[i] = m.coordinates(vars, 1, 1), m.coordinates(vars, 1, 1)
		if isPure[i] {
			left[i], self[i] = arg, arg
		}
	}
	m.self = f.Name + "." + kindNames[f.Kind] + "(" + strings.Join(self, ", ") + ")"
	value, where := kindNames[f.Kind]+"("+m.self+" "+m.oneOf("+", "-")+" "+kindNames[f.Kind]+"("+m.integer(vars, 2)+"))", ""
	if f.Kind == api.Bool || m.Intn(2) == 0 {
		value = kindNames[f.Kind] + "(" + m.integer(vars, 2) + ")"
	}
	if m.Intn(3) == 0 {
		where = m.integer(vars, 1) + " < " + m.integer(vars, 1)
	}
	updated(&m.p, left, value, where, domain...)
	m.self = ""
}

const madePipelines = 600

// TestMade compares with the oracle, also the errors, the reads and the work.
func TestMade(t *testing.T) {
	seen := map[string]int{}
	for seed := range int64(madePipelines) {
		p, g := makePipeline(seed)
		if err := mean.CheckGiven(p, g); err != api.OK {
			t.Fatal("what is made is not right", seed, err)
		}
		r := rand.New(rand.NewSource(seed))
		for f, fn := range p.Funcs {
			at := []int{r.Intn(7) - 2, r.Intn(7) - 2, r.Intn(7) - 2}[:len(fn.Args)]
			for stage := range len(fn.Updates) + 1 {
				o := newOracle(p, g)
				var want api.Value
				wantErr := caught(func() { want = o.at(f, stage, at) })
				v, err := mean.After(p, g, fn.Name, stage, at)
				if v != want || err != wantErr {
					t.Fatal("After", seed, fn.Name, stage, at, v, err, want, wantErr)
				}
				seen[fmt.Sprint("error ", err)]++
				if stage < len(fn.Updates) {
					continue
				}
				v, err = mean.At(p, g, fn.Name, at)
				reads, err2 := mean.Reads(p, g, fn.Name, at)
				var wantReads []mean.Read
				if wantErr == api.OK {
					wantReads = o.sorted()
				}
				if v != want || err != wantErr || err2 != wantErr || !equalReads(reads, wantReads) {
					t.Fatal("At, Reads", seed, fn.Name, at, v, err, err2, reads, wantReads)
				}
			}
			compareImage(t, seed, p, g, f, r, seen)
		}
	}
	for _, what := range []string{"error 0", "error 4", "error 14", "image error 0", "image error 4", "image error 14", "larger image"} {
		if seen[what] < 20 {
			t.Error("rare", what, seen)
		}
	}
}

// compareImage compares an image of a function, and the work for it.
func compareImage(t *testing.T, seed int64, p api.Pipeline, g api.Given, f int, r *rand.Rand, seen map[string]int) {
	t.Helper()
	fn := p.Funcs[f]
	b := make(api.Box, len(fn.Args))
	for i := range b {
		b[i] = api.Range{Min: r.Intn(5) - 2, Extent: 1 + r.Intn(4)}
	}
	points, _ := image.Points(b)
	o := newOracle(p, g)
	var data []uint64
	wantErr := caught(func() {
		for _, x := range points {
			data = append(data, o.at(f, len(fn.Updates), x).Bits)
		}
	})
	want := api.Image{}
	if wantErr == api.OK {
		want = dense(fn.Kind, b, data...)
	} else {
		o.work = 0
	}
	im, err := mean.Compute(p, g, fn.Name, b)
	if err != wantErr || !equalImages(im, want) {
		t.Fatal("Compute", seed, fn.Name, b, im, err, want, wantErr)
	}
	seen[fmt.Sprint("image error ", err)]++
	if o.work > 200 {
		seen["larger image"]++
	}
	cut := p
	cut.Funcs = p.Funcs[:f+1]
	whole, e1 := mean.Realize(cut, g, b)
	work, e2 := mean.Work(cut, g, b)
	if e1 != wantErr || e2 != wantErr || !equalImages(whole, want) || work != o.work {
		t.Fatal("Realize, Work", seed, fn.Name, b, e1, e2, work, o.work)
	}
}

func equalImages(a, b api.Image) bool {
	return a.Kind == b.Kind && slices.Equal(a.Box, b.Box) && slices.Equal(a.Strides, b.Strides) && slices.Equal(a.Data, b.Data)
}

// TestLaws looks at what P6.4 says.
func TestLaws(t *testing.T) {
	spared := 0
	for seed := range int64(madePipelines / 3) {
		p, g := makePipeline(seed)
		out := p.Funcs[len(p.Funcs)-1]
		b := api.Box{{Min: -1, Extent: 3}, {Min: 0, Extent: 2}, {Min: 2, Extent: 2}}[:len(out.Args)]
		im, err := mean.Realize(p, g, b)
		if err != api.OK {
			continue
		}
		points, _ := image.Points(b)
		read := map[string]bool{}
		for i, x := range points {
			v, e1 := mean.At(p, g, out.Name, x)
			there, e2 := image.At(im, x)
			if v != there || v.Bits != im.Data[i] || e1+e2 != api.OK {
				t.Fatal("the value of a point alone", seed, x, v, there)
			}
			reads, _ := mean.Reads(p, g, out.Name, x)
			for _, r := range reads {
				read[fmt.Sprint(r)] = true
			}
		}
		other := g
		other.Images = slices.Clone(g.Images)
		for i, in := range p.Inputs {
			all, _ := image.Points(g.Images[i].Box)
			data := slices.Clone(g.Images[i].Data)
			for _, x := range all {
				if !read[fmt.Sprint(mean.Read{Name: in.Name, Point: x})] && (x[0]+int(seed))%5 == 0 {
					v, _ := num.Cast(in.Kind, api.Value{Kind: api.I8, Bits: uint64(seed % 256)})
					data[element(g.Images[i], x)] = v.Bits
					spared++
				}
			}
			other.Images[i].Data = data
		}
		if same, err := mean.Realize(p, other, b); err != api.OK || !equalImages(same, im) {
			t.Fatal("elements that are not read", seed, err)
		}
		checkRenamed(t, seed, p, g, b, im)
	}
	if spared < 1000 {
		t.Error("few elements were changed", spared)
	}
}

// checkRenamed renames everything in a pipeline, also the variables, which changes no value.
func checkRenamed(t *testing.T, seed int64, p api.Pipeline, g api.Given, b api.Box, want api.Image) {
	t.Helper()
	work, _ := mean.Work(p, g, b)
	names := []string{}
	for _, f := range p.Funcs {
		names = append(names, f.Name)
	}
	for _, in := range p.Inputs {
		names = append(names, in.Name)
	}
	for _, x := range p.Params {
		names = append(names, x.Name)
	}
	for i, name := range names {
		var err api.Errno
		if p, err = pipe.Renamed(p, name, []string{"x", "zz", "y", "A", "r0", "_"}[i%6]+fmt.Sprint(len(names)-i)); err != api.OK {
			t.Fatal("Renamed", seed, err)
		}
	}
	for f := range p.Funcs {
		renameVariables(&p.Funcs[f])
	}
	im, e1 := mean.Realize(p, g, b)
	n, e2 := mean.Work(p, g, b)
	if e1 != api.OK || e2 != api.OK || !equalImages(im, want) || n != work {
		t.Fatal("renamed", seed, e1, e2, im, want, n, work)
	}
}

// renameVariables changes the variables of a function that shares no memory with others.
func renameVariables(f *api.Func) {
	rename := func(e api.Expr) {
		for i := range e {
			if e[i].Op == api.EVar {
				e[i].Name = "v" + e[i].Name
			}
		}
	}
	rename(f.Value)
	for i := range f.Args {
		f.Args[i] = "v" + f.Args[i]
	}
	for _, u := range f.Updates {
		for _, e := range u.Left {
			rename(e)
		}
		rename(u.Value)
		rename(u.Where)
		for i := range u.Domain {
			u.Domain[i].Name = "v" + u.Domain[i].Name
		}
	}
}

// TestAllOps has each Op that pipelines may have in the value of a function.
func TestAllOps(t *testing.T) {
	p := api.Pipeline{Name: "p", Params: []api.Param{{Name: "k", Kind: api.I32, Low: -9, High: 9}}}
	texts := []string{"x + @k", "x - @k", "x * @k", "x / @k", "x % @k", "min(x, @k)", "max(x, @k)", "x & @k", "x | @k", "x ^ @k", "x << @k", "x >> @k", "sat_add(x, @k)", "sat_sub(x, @k)", "avg(x, @k)", "i32(dist(x, @k))", "i32(x == @k)", "i32(x != @k)", "i32(x < @k)", "i32(x <= @k)", "!x", "i32(u8(x))", "i32(sat_u8(x))", "select(x < @k, x, 7)", "i32(f32(x) / 1p1f32)", "i32(c64(x) == c64(@k))"}
	for _, s := range texts {
		p.Funcs = []api.Func{{Name: "f", Args: []string{"x"}, Kind: api.I32, Value: exprOf(p, s)}}
		for x := -4; x <= 4; x++ {
			for k := -3; k <= 3; k++ {
				bits := func(n int) api.Value { return api.Value{Kind: api.I32, Bits: uint64(uint32(n))} }
				want, e1 := expr.Eval(p.Funcs[0].Value, []expr.Binding{{Name: "x", Value: bits(x)}, {Name: "k", Value: bits(k)}})
				got, e2 := mean.At(p, api.Given{Params: []api.Value{bits(k)}}, "f", []int{x})
				if e1 != api.OK || e2 != api.OK || got != want[0] {
					t.Fatal(s, x, k, got, want, e1, e2)
				}
			}
		}
	}
}

// spoil changes something in a pipeline or in what it is given, of which both may stay right.
func spoil(r *rand.Rand, p *api.Pipeline, g *api.Given) {
	f := &p.Funcs[r.Intn(len(p.Funcs))]
	n := []int{-1, 0, 1, 2, 7, 11, 1 << 40, -1 << 63}[r.Intn(8)]
	e := f.Value
	if len(f.Updates) > 0 && r.Intn(2) == 0 {
		u := &f.Updates[r.Intn(len(f.Updates))]
		e = u.Value
		switch r.Intn(5) {
		case 0:
			u.Left = append(u.Left, e)
		case 1:
			u.Domain = append(u.Domain, axis("r1", n, n))
		case 2:
			u.Where = e
		case 3:
			e = u.Left[0]
		}
	}
	node := &e[r.Intn(len(e))]
	switch r.Intn(10) {
	case 0:
		node.Op = n
	case 1:
		node.Kind = n
	case 2:
		node.Kids = append(node.Kids, n)
	case 3:
		node.Name = []string{"", "x", "f0", "in0", "p0", "r0"}[r.Intn(6)]
	case 4:
		f.Args = append(f.Args, "w")
	case 5:
		f.Kind = n
	case 6:
		g.Images = append(g.Images, api.Image{Kind: n, Box: make(api.Box, 2), Strides: []int{n, n}})
	case 7:
		g.Params = append(g.Params, api.Value{Kind: n})
	case 8:
		if len(g.Images) > 0 {
			g.Images[0].Box = append(g.Images[0].Box, api.Range{Min: n, Extent: n})
		}
	case 9:
		node.Bits = uint64(n)
	}
}

// TestSpoilt gives things of any form to all functions, which have the errors of CheckGiven, or the oracle's.
func TestSpoilt(t *testing.T) {
	wrong := 0
	for seed := range int64(4000) {
		r := rand.New(rand.NewSource(seed))
		p, g := makePipeline(seed % 300)
		for range 1 + r.Intn(2) {
			spoil(r, &p, &g)
		}
		want := mean.CheckGiven(p, g)
		out := p.Funcs[len(p.Funcs)-1]
		at := []int{r.Intn(5), r.Intn(5), r.Intn(5), 0, 0}[:min(5, len(out.Args))]
		if want == api.OK {
			o := newOracle(p, g)
			want = caught(func() { o.at(len(p.Funcs)-1, len(out.Updates), at) })
		} else {
			wrong++
		}
		_, e1 := mean.At(p, g, out.Name, at)
		_, e2 := mean.Reads(p, g, out.Name, at)
		b := make(api.Box, len(at))
		for i := range b {
			b[i] = api.Range{Min: at[i], Extent: 1}
		}
		_, e3 := mean.Realize(p, g, b)
		_, e4 := mean.Work(p, g, b)
		if e1 != want || e2 != want || e3 != want || e4 != want {
			t.Fatal(seed, want, e1, e2, e3, e4)
		}
		for k := range out.Updates {
			if _, err := mean.Pure(out, k); err != api.OK && err != api.ErrShape {
				t.Fatal("Pure", seed, err)
			}
		}
	}
	if wrong < 1000 {
		t.Error("few are wrong", wrong)
	}
}
