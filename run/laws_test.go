package run_test

import (
	"fmt"
	"slices"
	"testing"

	"halation/api"
	"halation/image"
	"halation/loop"
	"halation/run"
	"halation/sample"
)

// Promises P19.3 and P1.

// cell is an element of a buffer.
type cell struct {
	buffer string
	index  int
}

// TestLaws looks at what follows from what runs are.
func TestLaws(t *testing.T) {
	t.Parallel()
	seen := map[string]int{}
	for seed := range int64(1500) {
		m := maker(seed)
		p := m.Program()
		g := m.Given(p)
		orders := []int{m.Intn(9), m.Intn(9)}
		r, err := run.Run(p, g, orders, 5000)
		l, _ := run.Trace(p, g, orders, 5000)
		if err != api.OK {
			t.Fatal(seed, err)
		}
		checkTrace(t, seed, p, g, r, l)
		if r.Outcome == run.Steps {
			continue
		}
		// with more steps it ends alike, with fewer by Steps
		for _, limit := range []int{r.Steps, r.Steps + 1, run.MaxSteps} {
			if again, err := run.Run(p, g, orders, limit); err != api.OK || !sameResult(again, r) {
				t.Fatal(seed, "with more steps", limit, again, r)
			}
		}
		if r.Steps > 0 {
			limit := m.Intn(r.Steps)
			if less, err := run.Run(p, g, orders, limit); err != api.OK || less.Outcome != run.Steps || less.Steps != limit || less.Loads > r.Loads || less.Stores > r.Stores {
				t.Fatal(seed, "with fewer steps", limit, less)
			}
			seen["fewer"]++
		}
		checkRenamed(t, seed, p, g, orders, r, l)
	}
	if seen["fewer"] < 500 {
		t.Error("rare", seen)
	}
}

// checkTrace looks whether the stores of a trace make the output, and whether each load has what was stored last.
func checkTrace(t *testing.T, seed int64, p api.Program, g api.Given, r run.Result, l []run.Access) {
	t.Helper()
	held := map[cell]uint64{}
	for i, im := range g.Images {
		dense, _ := image.Dense(im)
		for k, bits := range dense.Data {
			held[cell{p.Buffers[i].Name, k}] = bits
		}
	}
	loads, stores := 0, 0
	for i, a := range l {
		at := cell{a.Buffer, a.Index}
		if a.Store {
			held[at] = a.Bits
			stores++
			continue
		}
		loads++
		if bits, ok := held[at]; !ok || bits != a.Bits {
			t.Fatal(seed, "a load of", i, a, bits, ok)
		}
	}
	if loads != r.Loads || stores != r.Stores {
		t.Fatal(seed, "counts", loads, stores, r)
	}
	out := p.Buffers[len(p.Buffers)-1].Name
	for i := range r.Set {
		if bits, ok := held[cell{out, i}]; ok != r.Set[i] || bits != r.Output[i] {
			t.Fatal(seed, "the output", i, bits, ok, r)
		}
	}
}

// checkRenamed renames all in a program, which changes no run but for the names of buffers in a trace.
func checkRenamed(t *testing.T, seed int64, p api.Program, g api.Given, orders []int, want run.Result, trace []run.Access) {
	t.Helper()
	names := map[string]string{}
	for i, name := range sample.Names(p) {
		to := fmt.Sprint("n", i)
		if q, err := loop.Renamed(p, name, to); err == api.OK {
			p, names[name] = q, to
		}
	}
	r, err := run.Run(p, g, orders, 5000)
	if err != api.OK || !sameResult(r, want) {
		t.Fatal(seed, "renamed", r, want, err)
	}
	l, _ := run.Trace(p, g, orders, 5000)
	same := slices.EqualFunc(l, trace, func(a, b run.Access) bool {
		b.Buffer = names[b.Buffer]
		return a == b
	})
	if !same {
		t.Fatal(seed, "a trace of what is renamed", l, trace)
	}
}

// TestAnyOrder has loops that store to different elements, and load nothing that they store: any order does the same.
func TestAnyOrder(t *testing.T) {
	p := parsed(t, "buffer a i32 0:12\nbuffer out i32 0:12\nblock {\n  tasks x ; 0 ; 3 {\n    for y ; 0 ; 4 {\n      store out ; x * 4 + y ; a{11 - x - y} * x\n    }\n  }\n  grid g ; 0 ; 2 {\n    block {\n      lane i ; 0 ; 3 {\n        store out ; g * 6 + i * 2 ; a{g} + i\n      }\n      alloc b i32 3 {\n        block {\n          tasks i ; 0 ; 3 {\n            store b ; i ; a{g + i}\n          }\n          tasks i ; 0 ; 3 {\n            store out ; g * 6 + i * 2 + 1 ; b{2 - i}\n          }\n        }\n      }\n    }\n  }\n}\n")
	m := maker(1)
	g := m.Given(p)
	want, err := run.Run(p, g, nil, 10000)
	if err != api.OK || want.Outcome != run.Done {
		t.Fatal(want, err)
	}
	for range 200 {
		var orders []int
		for range m.Intn(12) {
			orders = append(orders, m.Intn(1001))
		}
		if r, err := run.Run(p, g, orders, 10000); err != api.OK || !sameResult(r, want) {
			t.Fatal(orders, r, want, err)
		}
	}
}

// TestAnyArguments has programs, orders and limits of any form.
func TestAnyArguments(t *testing.T) {
	t.Parallel()
	right := 0
	for seed := range int64(3000) {
		m := maker(seed)
		p := m.Program()
		g := m.Given(p)
		if m.Intn(2) == 0 {
			p = m.SpoiltProgram(p)
		}
		if m.Intn(3) == 0 && len(g.Images) > 0 {
			im := &g.Images[m.Intn(len(g.Images))]
			switch m.Intn(3) {
			case 0:
				im.Kind = m.Number()
			case 1:
				im.Strides[0] = m.Number()
			case 2:
				im.Box = append(im.Box, api.Range{Min: m.Number(), Extent: m.Number()})
			}
		}
		if m.Intn(3) == 0 {
			g.Params = append(g.Params, api.Value{Kind: m.Number(), Bits: uint64(m.Number())})
		}
		var orders []int
		if m.Intn(3) == 0 {
			orders = append(orders, m.Number())
		}
		limit := m.Intn(2000)
		if m.Intn(4) == 0 {
			limit = m.Number()
		}
		_, wrong := loop.Check(p)
		given := run.CheckGiven(p, g)
		if wrong != api.OK && given != wrong {
			t.Fatal(seed, given, wrong)
		}
		want := given
		switch {
		case given != api.OK:
		case len(orders) > 0 && (orders[0] < 0 || orders[0] > 1000), limit < 0 || limit > run.MaxSteps:
			want = api.ErrRange
		}
		r, err1 := run.Run(p, g, orders, limit)
		l, err2 := run.Trace(p, g, orders, limit)
		visits, err3 := run.Visits(p, g, orders, limit)
		im, err4 := run.Image(p, g, orders, limit)
		if err1 != want || err3 != want || err2 != want && err2 != api.ErrLimit || want != api.OK && err4 != want {
			t.Fatal(seed, err1, err2, err3, err4, want)
		}
		if want != api.OK && len(r.Set)+r.Steps+len(l)+len(visits)+len(im.Box) > 0 {
			t.Fatal(seed, "beside an error", r, l, visits, im)
		}
		if want == api.OK {
			right++
		}
	}
	if right < 300 || right > 2500 {
		t.Error("rare", right)
	}
}

// TestMemory changes results, and looks whether arguments change.
func TestMemory(t *testing.T) {
	p := parsed(t, "buffer a u8 0:4\nbuffer out u8 0:4\nblock {\n  for x ; 0 ; 4 {\n    store a ; x ; a{x} + 1u8\n  }\n  tasks x ; 0 ; 4 {\n    store out ; x ; a{x}\n  }\n}\n")
	data := append(make([]uint64, 0, 9), 1, 2, 3, 4)
	g := api.Given{Images: []api.Image{{Kind: api.U8, Box: api.Box{{Extent: 4}}, Strides: []int{1}, Data: data}}}
	orders := []int{3}
	for range 2 {
		r, err1 := run.Run(p, g, orders, 100)
		l, err2 := run.Trace(p, g, orders, 100)
		im, err3 := run.Image(p, g, orders, 100)
		visits, err4 := run.Visits(p, g, orders, 100)
		if !slices.Equal(r.Output, []uint64{2, 3, 4, 5}) || !slices.Equal(im.Data, r.Output) || len(l) != 16 || visits[0] != 4 || err1+err2+err3+err4 != api.OK {
			t.Fatal(r, l, im, visits)
		}
		r.Output[0], r.Set[0], im.Data[0], im.Box[0].Extent, visits[0] = 9, false, 9, 9, 9
	}
	if !slices.Equal(data, []uint64{1, 2, 3, 4}) || orders[0] != 3 || p.Buffers[1].Box[0].Extent != 4 {
		t.Error("arguments were changed", data, orders, p.Buffers)
	}
}
