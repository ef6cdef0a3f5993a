package loop_test

import (
	"testing"

	"halation/api"
	"halation/loop"
	"halation/sample"
)

// Promise P1.

// TestAnyArguments asks for the errors of arguments of any form, and for nothing beside them.
func TestAnyArguments(t *testing.T) {
	t.Parallel()
	wrong := 0
	for seed := range int64(3000) {
		m := maker(seed)
		p := m.SpoiltProgram(m.Program())
		names := sample.Names(p)
		at, from, to := m.Number(), names[m.Intn(len(names))], names[m.Intn(len(names))]
		_, want := loop.Check(p)
		isThere := at >= 0 && at < len(p.Stmts)
		if want != api.OK {
			wrong++
		}
		first, err1 := loop.First(p, at)
		up, err2 := loop.Parent(p, at)
		variables, buffers, err3 := loop.Known(p, at)
		replaced, err4 := loop.Replaced(p, at, p.Stmts[:m.Intn(len(p.Stmts)+1)])
		for i, err := range []api.Errno{err1, err2, err3, err4} {
			switch {
			case want != api.OK && err != want, want == api.OK && !isThere && err != api.ErrUnknown, want == api.OK && isThere && err != api.OK && i < 3:
				t.Fatal(seed, i, at, err, want)
			}
		}
		if err1 != api.OK && first+up+len(variables)+len(buffers)+len(replaced.Stmts) != 0 {
			t.Fatal(seed, "beside an error", first, up, variables, buffers)
		}
		depth, err1 := loop.Depth(p)
		counts, err2 := loop.Counts(p)
		text, err3 := loop.Print(p)
		if err1 != want || err2 != want || want != api.OK && (err3 != want || depth+len(counts)+len(text) > 0) {
			t.Fatal(seed, err1, err2, err3, want)
		}
		stores, err1 := loop.Stores(p, from)
		loads, err2 := loop.Loads(p, from)
		renamed, err3 := loop.Renamed(p, from, to)
		if want != api.OK && (err1 != want || err2 != want || err3 != want || len(stores)+len(loads)+len(renamed.Stmts) > 0) {
			t.Fatal(seed, err1, err2, err3, want)
		}
	}
	if wrong < 1500 || wrong == 3000 {
		t.Error("rare", wrong)
	}
}

// TestMemory changes results, and looks whether arguments change, and whether results share memory.
func TestMemory(t *testing.T) {
	text := "buffer a u8 0:6\nbuffer out u8 0:4\nparam k i32 0 1\nblock {\n  for x ; 0 ; 4 {\n    store out ; shuffle(ramp(x, 0, 2), 0, 1) ; broadcast(a{x}, 2)\n  }\n  copy a to host\n}\n"
	p := parsed(t, text)
	spoil := func(q api.Program) {
		for i := range q.Buffers {
			q.Buffers[i].Name, q.Buffers[i].Box[0].Extent = "z", 1
		}
		for i := range q.Params {
			q.Params[i].Name = "z"
		}
		for i := range q.Stmts {
			s := &q.Stmts[i]
			s.Name = "z"
			for k := range s.Kids {
				s.Kids[k] = 9
			}
			for _, e := range s.Exprs {
				for k := range e {
					e[k].Name = "z"
					for j := range e[k].Kids {
						e[k].Kids[j] = 9
					}
					for j := range e[k].Picks {
						e[k].Picks[j] = 9
					}
				}
			}
		}
	}
	renamed, err1 := loop.Renamed(p, "x", "y")
	itself, err2 := loop.Replaced(p, 1, p.Stmts[:2])
	by := parsed(t, text).Stmts[2:3]
	other, err3 := loop.Replaced(p, 2, by)
	again, _, err4 := loop.Parse(text)
	spoil(renamed)
	spoil(itself)
	spoil(other)
	spoil(again)
	if s, err := loop.Print(p); s != text || err+err1+err2+err3+err4 != api.OK || by[0].Name != "a" {
		t.Error("arguments were changed", s, err, err1, err2, err3, err4)
	}
	_, buffers, _ := loop.Known(p, 0)
	counts, _ := loop.Counts(p)
	buffers[0], counts[0] = "z", 9
	if s, err := loop.Print(p); s != text || err != api.OK {
		t.Error("arguments were changed", s)
	}
}
