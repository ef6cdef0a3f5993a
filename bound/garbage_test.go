package bound_test

import (
	"math/rand"
	"slices"
	"testing"

	"halation/affine"
	"halation/api"
	"halation/bound"
	"halation/expr"
	"halation/sample"
)

// Promise P1.

// TestAnyArguments asks for nothing but the errors of arguments of any form.
func TestAnyArguments(t *testing.T) {
	t.Parallel()
	right := 0
	for seed := range int64(900) {
		p, s, b, m := made(seed)
		p, s, b = m.Spoilt(p, s, b)
		o, want := infer(p, s, b)
		l, err := bound.Regions(p, s, b)
		all, err2 := bound.Whole(p, s, b)
		if err != want || err2 != want || want != api.OK && len(l)+len(all) > 0 {
			t.Fatal(seed, err, err2, want)
		}
		stage := m.Number()
		path, err := bound.Path(p, s, b, "out", stage)
		e, err2 := bound.Coordinates(p, s, b, "out", stage)
		given := []api.Box{nil, {{Min: m.Number(), Extent: m.Number()}}}
		in, err3 := bound.Inputs(p, s, b)
		err4 := bound.CheckInputs(p, s, b, given)
		if want == api.OK {
			right++
			updates := len(o.placed.Funcs[len(o.placed.Funcs)-1].Updates)
			if stage < 0 || stage > updates {
				want = api.ErrRange
			}
			if err != want || err2 != want || err != api.OK && len(path)+len(e) > 0 || err3 != api.OK && (len(in) > 0 || err4 != err3) {
				t.Fatal(seed, stage, err, err2, want, err3, err4)
			}
		} else if err != want || err2 != want || err3 != want || err4 != want || len(path)+len(e)+len(in) > 0 {
			t.Fatal(seed, err, err2, err3, err4, want)
		}
	}
	if right < 100 {
		t.Error("rare", right)
	}
}

// TestAtAny asks for boxes of regions of any form.
func TestAtAny(t *testing.T) {
	seen := map[api.Errno]int{}
	for seed := range int64(3000) {
		m := sample.Maker{Picker: rand.New(rand.NewSource(seed))}
		var r bound.Region
		var values []int
		for range m.Intn(3) {
			r.Site = append(r.Site, bound.Loop{Extent: []int{4, 4, m.Number()}[m.Intn(3)]})
			values = append(values, []int{0, 1, 2, m.Number()}[m.Intn(4)])
		}
		for range m.Intn(4) {
			d := bound.Dim{Min: affine.Form{Const: m.Intn(9)}, Extent: m.Intn(9)}
			if m.Intn(4) == 0 {
				d.Min.Const, d.Extent = m.Number(), m.Number()
			}
			if m.Intn(2) == 0 {
				d.Min.Terms = append(d.Min.Terms, affine.Term{Coeff: m.Number(), Atom: variable(m.Intn(3))})
			}
			r.Dims = append(r.Dims, d)
		}
		b, err := bound.At(r, values)
		seen[err]++
		if err != api.OK && len(b) > 0 || err == api.OK && len(b) != len(r.Dims) {
			t.Fatal(seed, r, values, b, err)
		}
	}
	if seen[api.OK] < 200 || len(seen) < 5 {
		t.Error("rare", seen)
	}
}

// TestMemory changes results, and looks whether anything else changes.
func TestMemory(t *testing.T) {
	p, s, b := pipeline(t, deep), schedule(t, "b compute_at out y; a compute_at b y; c compute_root"), box(0, 8, 0, 4)
	want := func() string {
		l, _ := bound.Regions(p, s, b)
		all, _ := bound.Whole(p, s, b)
		in, _ := bound.Inputs(p, s, b)
		return texts(l) + texts(all) + texts(in)
	}
	before := want()
	q := pipeline(t, deep)
	placed, _ := bound.Placed(p, s)
	for i := range placed.Funcs {
		f := &placed.Funcs[i]
		f.Args[0] = "q"
		for k := range f.Value {
			f.Value[k].Name = "q"
			for j := range f.Value[k].Kids {
				f.Value[k].Kids[j] = 99
			}
		}
	}
	l, _ := bound.Regions(p, s, b)
	for i := range l {
		for k := range l[i].Dims {
			for j := range l[i].Dims[k].Min.Terms {
				l[i].Dims[k].Min.Terms[j].Atom[0].Name = "q"
				l[i].Dims[k].Min.Terms[j].Coeff = 0
			}
			for _, d := range l[i].Dims[k+1:] {
				if affine.Check(d.Min) != api.OK {
					t.Error("dimensions share memory")
				}
			}
			l[i].Dims[k] = bound.Dim{}
		}
		for k := range l[i].Site {
			l[i].Site[k] = bound.Loop{}
		}
		for _, r := range l[i+1:] {
			if slices.Contains(r.Site, bound.Loop{}) || slices.ContainsFunc(r.Dims, func(d bound.Dim) bool { return affine.Check(d.Min) != api.OK }) {
				t.Error("regions share memory")
			}
		}
	}
	path, _ := bound.Path(p, s, b, "a", 0)
	path[0] = bound.Loop{}
	e, _ := bound.Coordinates(p, s, b, "a", 0)
	for i := range e {
		for k := range e[i] {
			e[i][k] = api.Node{Op: 99}
		}
		for _, x := range e[i+1:] {
			if expr.Check(x) != api.OK {
				t.Error("coordinates share memory")
			}
		}
	}
	if want() != before || !slices.EqualFunc(p.Funcs, q.Funcs, func(f, g api.Func) bool { return expr.Same(f.Value, g.Value) && slices.Equal(f.Args, g.Args) }) {
		t.Error("arguments were changed", want(), before)
	}
}
