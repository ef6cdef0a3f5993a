package window_test

import (
	"math/rand"
	"testing"

	"halation/affine"
	"halation/api"
	"halation/bound"
	"halation/expr"
	"halation/sample"
	"halation/window"
)

// Promise P1.

// TestAnyArguments asks for nothing but the errors of arguments of any form.
func TestAnyArguments(t *testing.T) {
	t.Parallel()
	right := 0
	for seed := range int64(400) {
		p, s, b, m := made(seed)
		p, s, b = m.Spoilt(p, s, b)
		name := []string{"f0", "f0", "out", "", "in"}[m.Intn(5)]
		o := newOracle(p, s, b, name)
		value, factor := m.Number(), m.Number()
		site, err1 := window.StoreSite(p, s, b, name)
		between, err2 := window.Between(p, s, b, name)
		x, err3 := window.Stored(p, s, b, name)
		_, slides, err4 := window.Sliding(p, s, b, name)
		box, err5 := window.Fresh(p, s, b, name, []int{value})
		some, all, err6 := window.Saved(p, s, b, name)
		n, err7 := window.LeastFold(p, s, b, name, "x")
		l, is, err8 := window.Overwrites(p, s, b, name, "x", factor)
		if o.err == api.OK {
			right++
			if err1 != api.OK || err2 != api.OK || err4 != api.OK || err5 != api.OK && len(box) > 0 || err6 != api.OK && some+all != 0 || err7 != api.OK && (err8 != err7 || n != 0) || err8 != api.OK && (is || len(l) > 0) {
				t.Fatal(seed, name, err1, err2, err4, err5, err6, err7, err8)
			}
			continue
		}
		for i, err := range []api.Errno{err1, err2, err3, err4, err5, err6, err7, err8} {
			if err != o.err {
				t.Fatal(seed, name, i, err, o.err)
			}
		}
		if len(site)+len(between)+len(x.Dims)+x.Elements+len(box)+some+all+n+len(l) > 0 || slides || is {
			t.Fatal(seed, name, "results beside an error")
		}
	}
	if right < 25 {
		t.Error("rare", right)
	}
}

// TestAnyStorage asks for elements of storages of any form.
func TestAnyStorage(t *testing.T) {
	seen, addresses := map[api.Errno]int{}, map[api.Errno]int{}
	for seed := range int64(6000) {
		m := sample.Maker{Picker: rand.New(rand.NewSource(seed))}
		number := func(right int) int {
			if m.Intn(12) == 0 {
				return m.Number()
			}
			return right
		}
		var x window.Storage
		var values, point []int
		var coordinates []api.Expr
		for range m.Intn(3) {
			x.Site = append(x.Site, bound.Loop{Extent: number(4)})
			values = append(values, number(m.Intn(4)))
		}
		for range number(1+m.Intn(3)) & 3 {
			d := window.Dim{Min: affine.Form{Const: number(m.Intn(9))}, Extent: number(20 + m.Intn(9)), Fold: number(m.Intn(9))}
			if m.Intn(3) == 0 {
				name := []string{"s0", "s1", "s2", "x", ""}[m.Intn(5)]
				d.Min.Terms = append(d.Min.Terms, affine.Term{Coeff: number(m.Intn(3) + 1), Atom: api.Expr{{Op: api.EVar, Kind: api.I32, Lanes: 1, Name: name}}})
			}
			x.Dims = append(x.Dims, d)
			point = append(point, number(8+m.Intn(10)))
			coordinates = append(coordinates, api.Expr{{Op: api.EVar, Kind: number(api.I32), Lanes: 1, Name: "y"}})
		}
		n, err := window.Index(x, values, point)
		seen[err]++
		if n < 0 || n > 4095 || err != api.OK && n != 0 {
			t.Fatal("Index", seed, x, values, point, n, err)
		}
		e, err := window.Address(x, coordinates)
		addresses[err]++
		if err != api.OK && len(e) > 0 || err == api.OK && expr.Check(e) != api.OK {
			t.Fatal("Address", seed, x, coordinates, e, err)
		}
	}
	if seen[api.OK] < 500 || len(seen) < 6 || addresses[api.OK] < 500 || len(addresses) < 5 {
		t.Error("rare", seen, addresses)
	}
}

// TestMemory changes results, and looks whether anything else changes.
func TestMemory(t *testing.T) {
	p, b := pipeline(t, plane), box(0, 8, 0, 4)
	s := schedule(t, "f compute_at out x; f store_at out y; f fold x 12; e compute_at f x; e store_at out y")
	before, _ := window.Stored(p, s, b, "e")
	site, _ := window.StoreSite(p, s, b, "e")
	between, _ := window.Between(p, s, b, "e")
	x, _ := window.Stored(p, s, b, "e")
	values := []int{1, 2, 0, 0}
	fresh, _ := window.Fresh(p, s, b, "e", values)
	lost, _, _ := window.Overwrites(p, s, b, "e", "x", 1)
	site[0], between[0], fresh[0], x.Site[0] = bound.Loop{}, window.Crossed{}, api.Range{}, bound.Loop{}
	if len(lost) > 0 {
		lost[0] = 9
	}
	x.Dims[1].Min.Terms[0].Atom[0].Name = "q"
	x.Dims[1].Min.Terms[0].Coeff = 7
	if again, err := window.Stored(p, s, b, "e"); !sameStorage(again, before) || err != api.OK || values[1] != 2 {
		t.Error("arguments were changed", again, before, err)
	}
	points := []api.Expr{{{Op: api.EVar, Kind: api.I32, Lanes: 1, Name: "a"}}, {{Op: api.EVar, Kind: api.I32, Lanes: 1, Name: "b"}}}
	e, _ := window.Address(before, points)
	want, _ := window.Address(before, points)
	for i := range e {
		for k := range e[i].Kids {
			e[i].Kids[k] = 99
		}
		e[i].Name = "z"
	}
	if again, _ := window.Address(before, points); !expr.Same(again, want) {
		t.Error("Address shares memory", again)
	}
}
