package lower_test

import (
	"fmt"
	"slices"
	"strings"
	"testing"

	"halation/api"
	"halation/front"
	"halation/lang"
	"halation/loop"
	"halation/lower"
	"halation/sched"
)

// Promises P20.1 and P20.2.

// pipeline returns the pipeline of lines.
func pipeline(t *testing.T, lines ...string) api.Pipeline {
	t.Helper()
	p, line, _, err := front.Parse("pipeline p\n" + strings.Join(lines, "\n") + "\nend\n")
	if err != api.OK {
		t.Fatal(lines, line, err)
	}
	return p
}

// schedule returns the schedule of lines.
func schedule(t *testing.T, lines ...string) api.Schedule {
	t.Helper()
	var s api.Schedule
	for _, line := range lines {
		d, err := sched.ParseDirective(line)
		if err != api.OK {
			t.Fatal(line, err)
		}
		s = append(s, d)
	}
	return s
}

var example = []string{"input in u8 1", "func f(x) i32 = i32(in[x]) + i32(in[x + 1])", "func out(x) i32 = f(x - 1) + f(x + 1)"}

// printed returns the text of an expression.
func printed(t *testing.T, e api.Expr) string {
	t.Helper()
	s, err := lang.Print(e, nil)
	if err != api.OK {
		t.Fatal(e, err)
	}
	return s
}

// TestExamples has the examples of the chapter.
func TestExamples(t *testing.T) {
	p, b, in := pipeline(t, example...), api.Box{{Extent: 16}}, []api.Box{{{Min: -1, Extent: 19}}}
	root := schedule(t, "f compute_root")
	l, err := lower.Buffers(p, root, b, in)
	if len(l) != 3 || err != api.OK {
		t.Fatal(l, err)
	}
	for i, want := range []string{"i0 -1 19", "f0 -1 18", "f1 0 16"} {
		if got := fmt.Sprint(l[i].Buffer, " ", l[i].Storage.Dims[0].Min.Const, " ", l[i].Storage.Elements); got != want || l[i].Storage.Dims[0].Extent != l[i].Storage.Elements {
			t.Error(got, "not", want)
		}
	}
	v, err := lower.Value(p, root, b, in, "out", 0, 0)
	if s := printed(t, v); s != "f0.i32{t0 - 1 - -1} + f0.i32{t0 + 1 - -1}" || err != api.OK {
		t.Error(s, err)
	}
	q, err := lower.Lower(p, root, b, in)
	want := "buffer i0 u8 -1:19\nbuffer f1 i32 0:16\nalloc f0 i32 18 {\n  block {\n    mark f0 {\n      block {\n        for s0 ; 0 ; 18 {\n          let t0 ; -1 + s0 {\n            store f0 ; t0 - -1 ; i32(i0{t0 - -1}) + i32(i0{t0 + 1 - -1})\n          }\n        }\n      }\n    }\n    mark f1 {\n      block {\n        for s0 ; 0 ; 16 {\n          let t0 ; 0 + s0 {\n            store f1 ; t0 - 0 ; f0{t0 - 1 - -1} + f0{t0 + 1 - -1}\n          }\n        }\n      }\n    }\n  }\n}\n"
	if s, _ := loop.Print(q); s != want || err != api.OK {
		t.Error(s, err)
	}
	for i, x := range []struct {
		lines     []string
		f         string
		ops       string
		condition string
	}{
		{[]string{"f compute_root"}, "out", "[3 5]", ""},
		{[]string{"f compute_root", "out.0 split x xo xi 6 guard"}, "out", "[3 5 4]", "s0 * 6 + s1 < 16"},
		{[]string{"out.0 split x xo xi 2 exact", "f compute_at out xo", "f store_root", "f fold x 4"}, "f", "[3 4 5]", "(s0 == 0) | (s0 * 2 + -1 + 2 <= t0)"},
	} {
		s := schedule(t, x.lines...)
		in := []api.Box{{{Min: -1, Extent: 21}}}
		l, err := lower.Stage(p, s, b, in, x.f, 0)
		var ops []int
		condition := ""
		for k, y := range l {
			ops = append(ops, y.Op)
			if y.Op == api.SIf {
				condition = printed(t, y.Exprs[0])
			}
			if k == 0 && len(y.Kids) > 0 || k > 0 && !slices.Equal(y.Kids, []int{k - 1}) {
				t.Error("kids", l)
			}
		}
		if fmt.Sprint(ops) != x.ops || condition != x.condition || err != api.OK {
			t.Error(i, ops, condition, err)
		}
	}
}

// TestStages has updates, conditions, parameters, several dimensions, and functions that are inlined or dead.
func TestStages(t *testing.T) {
	p := pipeline(t, "input a u8 2", "input b bool 1", "param k i32 0 3", "param c u8 1 2",
		"func one(x) i32 = x * @k", "func dead(x) i32 = i32(b[x])",
		"func g(x, y) i32 = one(x) + i32(a[x, y])", "over r 1 3", "over q 0 2", "where i32(@c) < g(r, y)", "set r, y = g(r - 1, y) + q",
		"func out(x, y) i32 = g(x, y) * i32(@c)")
	s := schedule(t, "g compute_at out y", "g.1 reorder y r q", "out.0 reorder y x")
	b := api.Box{{Min: 2, Extent: 4}, {Min: -3, Extent: 2}}
	in := []api.Box{{{Min: 0, Extent: 8}, {Min: -3, Extent: 2}}, {{Extent: 1}}}
	q, err := lower.Lower(p, s, b, in)
	want := `buffer i0 u8 0:8, -3:2
buffer i1 bool 0:1
buffer f1 i32 2:4, -3:2
param p0 i32 0 3
param p1 u8 1 2
mark f1 {
  block {
    for s0 ; 0 ; 4 {
      for s1 ; 0 ; 2 {
        alloc f0 i32 6 {
          block {
            mark f0 {
              block {
                for s2 ; 0 ; 1 {
                  for s3 ; 0 ; 6 {
                    let t0 ; 0 + s3 {
                      let t1 ; s1 + -3 + s2 {
                        store f0 ; t0 - 0 + (t1 - (s1 + -3)) * 6 ; t0 * @p0 + i32(i0{t0 - 0 + (t1 - -3) * 8})
                      }
                    }
                  }
                }
                for s2 ; 0 ; 2 {
                  for s3 ; 0 ; 3 {
                    for s4 ; 0 ; 1 {
                      let t0 ; s1 + -3 + s4 {
                        let t1 ; 1 + s3 {
                          let t2 ; 0 + s2 {
                            store f0 ; t1 - 0 + (t0 - (s1 + -3)) * 6 ; f0{t1 - 1 - 0 + (t0 - (s1 + -3)) * 6} + t2 ; i32(@p1) < f0{t1 - 0 + (t0 - (s1 + -3)) * 6}
                          }
                        }
                      }
                    }
                  }
                }
              }
            }
            let t0 ; 2 + s0 {
              let t1 ; -3 + s1 {
                store f1 ; t0 - 2 + (t1 - -3) * 4 ; f0{t0 - 0 + (t1 - (s1 + -3)) * 6} * i32(@p1)
              }
            }
          }
        }
      }
    }
  }
}
`
	text, _ := loop.Print(q)
	if text != want || err != api.OK {
		t.Error(text, err)
	}
	for i, x := range []struct {
		f           string
		stage, part int
		text        string
		err         api.Errno
	}{
		{"g", 1, 0, "f0.i32{t1 - 1 - 0 + (t0 - (s1 + -3)) * 6} + t2", api.OK}, {"g", 1, 1, "t1", api.OK}, {"g", 1, 2, "t0", api.OK},
		{"g", 1, 4, "i32(@p1.u8) < f0.i32{t1 - 0 + (t0 - (s1 + -3)) * 6}", api.OK}, {"g", 1, 3, "", api.ErrUnknown}, {"g", 1, -1, "", api.ErrUnknown}, {"g", 1, 5, "", api.ErrUnknown},
		{"g", 0, 1, "", api.ErrUnknown}, {"g", 0, 4, "", api.ErrUnknown}, {"g", 2, 0, "", api.ErrRange}, {"g", -1, 9, "", api.ErrRange}, {"one", 0, 0, "", api.ErrUnknown}, {"dead", 0, 0, "", api.ErrUnknown}, {"a", 0, 0, "", api.ErrUnknown}, {"", 7, 0, "", api.ErrUnknown},
	} {
		e, err := lower.Value(p, s, b, in, x.f, x.stage, x.part)
		got := ""
		if len(e) > 0 {
			got = printed(t, e)
		}
		if got != x.text || err != x.err {
			t.Error(i, got, err)
		}
		l, err := lower.Stage(p, s, b, in, x.f, x.stage)
		if x.err == api.OK || x.err == api.ErrUnknown && x.f == "g" {
			if err != api.OK || len(l) == 0 {
				t.Error(i, "Stage", l, err)
			}
		} else if err != x.err || len(l) > 0 {
			t.Error(i, "Stage", l, err)
		}
	}
}

// TestBoxes has the errors of boxes of inputs.
func TestBoxes(t *testing.T) {
	p := pipeline(t, "input a u8 2", "input b bool 1", "input c u8 1", "func out(x) i32 = i32(a[x, 0]) + i32(b[x + 1])")
	ok := []api.Box{{{Extent: 4}, {Extent: 1}}, {{Min: 1, Extent: 4}}, {{Extent: 1}}}
	with := func(i int, b api.Box) []api.Box {
		out := slices.Clone(ok)
		out[i] = b
		return out
	}
	b := api.Box{{Extent: 4}}
	for i, x := range []struct {
		s   api.Schedule
		b   api.Box
		in  []api.Box
		err api.Errno
	}{
		{nil, b, ok, api.OK},
		{schedule(t, "out compute_root"), nil, nil, api.ErrKind},
		{nil, nil, nil, api.ErrDims},
		{schedule(t, "out.0 split x xo xi 3 round_up"), b, nil, api.ErrTail},
		{nil, b, ok[:2], api.ErrShape},
		{nil, b, append(slices.Clone(ok), ok[0]), api.ErrShape},
		{nil, b, with(0, nil), api.ErrDims},
		{nil, b, with(0, api.Box{{Extent: 4}}), api.ErrDims},
		{nil, b, with(1, api.Box{{Extent: 65}}), api.ErrRange},
		{nil, b, []api.Box{{{Extent: 4}}, {{Extent: 65}}, nil}, api.ErrDims},
		{nil, b, with(2, api.Box{{Extent: 4}, {Extent: 4}}), api.ErrDims}, // also of what is not read
		{nil, b, with(2, nil), api.ErrDims},
		{nil, b, []api.Box{{{Extent: 3}, {Extent: 1}}, {{Min: 1, Extent: 4}}, {{Extent: 65}}}, api.ErrRange}, // ahead of what is too small
		{nil, b, with(0, api.Box{{Extent: 3}, {Extent: 1}}), api.ErrBounds},
		{nil, b, with(1, api.Box{{Min: 2, Extent: 4}}), api.ErrBounds},
		{nil, b, with(0, api.Box{{Min: -1, Extent: 9}, {Min: -1, Extent: 2}}), api.OK},
	} {
		l, err1 := lower.Buffers(p, x.s, x.b, x.in)
		e, err2 := lower.Value(p, x.s, x.b, x.in, "out", 0, 0)
		st, err3 := lower.Stage(p, x.s, x.b, x.in, "out", 0)
		q, err4 := lower.Lower(p, x.s, x.b, x.in)
		for _, err := range []api.Errno{err1, err2, err3, err4} {
			if err != x.err {
				t.Error(i, err, "not", x.err)
			}
		}
		if x.err != api.OK && len(l)+len(e)+len(st)+len(q.Stmts)+len(q.Buffers) > 0 {
			t.Error(i, "beside an error", l, e, st, q)
		}
	}
	// what is read in no function that is placed is not asked for points, but has to have some in a program
	none := with(2, api.Box{{Extent: 0}})
	if l, err := lower.Buffers(p, nil, b, none); len(l) != 4 || l[2].Storage.Elements != 0 || err != api.OK {
		t.Error("an input without points", l, err)
	}
	if l, err := lower.Stage(p, nil, b, none, "out", 0); len(l) != 2 || err != api.OK {
		t.Error("an input without points", l, err)
	}
	if q, err := lower.Lower(p, nil, b, none); len(q.Stmts) != 0 || err != api.ErrLarge {
		t.Error("an input without points", err)
	}
	// an output without points has no address
	empty := api.Box{{Extent: 0}}
	if e, err := lower.Value(p, nil, empty, ok, "out", 0, 0); len(e) == 0 || err != api.OK {
		t.Error("an output without points", err)
	}
	if l, err := lower.Stage(p, nil, empty, ok, "out", 0); len(l) != 0 || err != api.ErrRange {
		t.Error("an output without points", err)
	}
	if q, err := lower.Lower(p, nil, empty, none); len(q.Stmts) != 0 || err != api.ErrRange {
		t.Error("an output without points", err)
	}
}

// long returns a sum of as many loads of an input as there are with at most so many nodes.
func long(term string, count int) string {
	return strings.TrimSuffix(strings.Repeat(term+" + ", count), " + ")
}

// TestLong has expressions that are too long in the program, but not in the pipeline.
func TestLong(t *testing.T) {
	// a term of in[x] has 5 nodes in the pipeline with its sum and its cast, and 2 more for the address
	in := []api.Box{{{Extent: 8}}}
	b := api.Box{{Extent: 4}}
	const short, lengthy = 20, 45
	for i, x := range []struct {
		left, value, where int // how many terms
		errs               string
	}{
		// the errors of the parts Value, Left, Where; of Stage
		{short, short, short, "[0 0 0 0]"},
		{short, lengthy, short, "[5 0 0 5]"},
		{lengthy, short, short, "[0 5 0 5]"},
		{short, short, lengthy, "[0 0 5 5]"},
	} {
		term := "i32(in[r])"
		p := pipeline(t, "input in u8 1", "func out(x) i32 = 0", "over r 0 4", "where "+long(term, x.where)+" < 9", "set min(max("+long(term, x.left)+", 0), 3) = "+long(term, x.value))
		var errs []api.Errno
		for _, part := range []int{0, 1, 4} {
			e, err := lower.Value(p, nil, b, in, "out", 1, part)
			if (len(e) == 0) != (err != api.OK) {
				t.Error(i, part, e, err)
			}
			errs = append(errs, err)
		}
		l, err := lower.Stage(p, nil, b, in, "out", 1)
		q, err2 := lower.Lower(p, nil, b, in)
		if fmt.Sprint(append(errs, err)) != x.errs || err != err2 || err != api.OK && len(l)+len(q.Stmts) > 0 {
			t.Error(i, errs, err, err2)
		}
		if l, err := lower.Stage(p, nil, b, in, "out", 0); len(l) != 2 || err != api.OK {
			t.Error(i, "its pure definition", l, err)
		}
	}
	// just as many nodes as there can be: i32(in[x]) has 5 in the program, and a sum one more
	for terms := 41; terms <= 46; terms++ {
		p := pipeline(t, "input in u8 1", "func out(x) i32 = "+long("i32(in[x])", terms))
		e, err := lower.Value(p, nil, b, in, "out", 0, 0)
		if nodes := 6*terms - 1; nodes > 256 != (err == api.ErrMany) || err == api.OK && len(e) != nodes {
			t.Error(terms, len(e), err)
		}
	}
}

// TestLongStatements has what is too long beside the parts: addresses of stores, coordinates and guards.
func TestLongStatements(t *testing.T) {
	// the address of a store adds to a Left that is just not too long
	b := api.Box{{Extent: 4}}
	p := pipeline(t, "func out(x) i32 = 0", "over r 0 4", "set min(max("+long("r", 63)+" - "+long("r", 62)+", 0), 3) = r")
	if e, err := lower.Value(p, nil, b, nil, "out", 1, 1); len(e) != 253 || err != api.OK {
		t.Error("Left", len(e), err)
	}
	if l, err := lower.Stage(p, nil, b, nil, "out", 1); len(l) == 0 || err != api.OK {
		t.Error("with its address", err)
	}
	p = pipeline(t, "func out(x) i32 = 0", "over r 0 4", "set min(max("+long("r", 63)+" - "+long("r", 63)+", 0), 3) = r")
	if e, err := lower.Value(p, nil, b, nil, "out", 1, 1); len(e) != 255 || err != api.OK {
		t.Error("Left", len(e), err)
	}
	if l, err := lower.Stage(p, nil, b, nil, "out", 1); len(l) != 0 || err != api.ErrMany {
		t.Error("with its address", err)
	}
	// each split of what is outside adds a guard, and all of them are put together
	p, b = pipeline(t, "func out(x) i32 = x"), api.Box{{Extent: 64}}
	var lines []string
	v := "x"
	for i := range 12 {
		lines = append(lines, fmt.Sprint("out.0 split ", v, " o", i, " i", i, " 3 guard"))
		v = fmt.Sprint("o", i)
		s := schedule(t, lines...)
		want := api.OK
		if i >= 10 {
			want = api.ErrMany
		}
		_, err1 := lower.Buffers(p, s, b, nil)
		_, err2 := lower.Value(p, s, b, nil, "out", 0, 0)
		l, err3 := lower.Stage(p, s, b, nil, "out", 0)
		q, err4 := lower.Lower(p, s, b, nil)
		if err1+err2 != api.OK || err3 != want || err4 != want || want != api.OK && len(l)+len(q.Stmts) > 0 {
			t.Error(i, err1, err2, err3, err4)
		}
		if i == 9 && len(l[len(l)-1].Exprs[0]) != 227 {
			t.Error("guards", len(l[len(l)-1].Exprs[0]))
		}
	}
}

// TestGiven has the errors of what a pipeline is given.
func TestGiven(t *testing.T) {
	p := pipeline(t, "input a u8 1", "input b bool 2", "param k i32 0 9", "param c u8 1 2", "func out(x) i32 = i32(a[x]) + i32(b[x, 0]) + @k")
	b := api.Box{{Extent: 2}}
	a := api.Image{Kind: api.U8, Box: api.Box{{Extent: 2}}, Strides: []int{2}, Data: []uint64{5, 0, 6}}
	c := api.Image{Kind: api.Bool, Box: api.Box{{Extent: 2}, {Extent: 1}}, Strides: []int{1, 2}, Data: []uint64{0, 1}}
	k, one := api.Value{Kind: api.I32, Bits: 9}, api.Value{Kind: api.U8, Bits: 1}
	small, other := a, c
	small.Box, other.Kind = api.Box{{Extent: 1}}, api.U8
	flat := a
	flat.Kind = api.Bool
	flat.Data = []uint64{1, 0, 1}
	bad := a
	bad.Data = nil
	for i, x := range []struct {
		s      api.Schedule
		images []api.Image
		params []api.Value
		err    api.Errno
	}{
		{nil, []api.Image{a, c}, []api.Value{k, one}, api.OK},
		{schedule(t, "out compute_root"), []api.Image{a}, nil, api.ErrShape},
		{schedule(t, "out compute_root"), []api.Image{bad, {}}, nil, api.ErrBounds},
		{schedule(t, "out compute_root"), []api.Image{other, {}}, nil, api.ErrDims},
		{schedule(t, "out compute_root"), []api.Image{c, c}, nil, api.ErrType},
		{schedule(t, "out compute_root"), []api.Image{a, other}, nil, api.ErrType},
		{schedule(t, "out compute_root"), []api.Image{a, flat}, nil, api.ErrDims},
		{schedule(t, "out compute_root"), []api.Image{a, c}, nil, api.ErrKind},
		{nil, []api.Image{small, c}, nil, api.ErrBounds},
		{nil, []api.Image{a, c}, []api.Value{k}, api.ErrShape},
		{nil, []api.Image{a, c}, []api.Value{k, one, one}, api.ErrShape},
		{nil, []api.Image{a, c}, []api.Value{{Kind: 99}, one}, api.ErrKind},
		{nil, []api.Image{a, c}, []api.Value{k, k}, api.ErrType},
		{nil, []api.Image{a, c}, []api.Value{k, {Kind: api.U8, Bits: 3}}, api.ErrRange},
		{nil, []api.Image{a, c}, []api.Value{{Kind: api.I32, Bits: 10}, {}}, api.ErrRange},
	} {
		g, err := lower.Given(p, x.s, b, api.Given{Images: x.images, Params: x.params})
		im, err2 := lower.Realize(p, x.s, b, api.Given{Images: x.images, Params: x.params}, nil, 1000)
		if err != x.err || err2 != x.err || err != api.OK && len(g.Images)+len(g.Params)+len(im.Box) > 0 {
			t.Error(i, g, err, err2, "not", x.err)
		}
		if err == api.OK && (!slices.Equal(g.Images[0].Data, []uint64{5, 6}) || !slices.Equal(g.Images[0].Strides, []int{1}) || !slices.Equal(im.Data, []uint64{14, 16}) || im.Kind != api.I32) {
			t.Error(g, im)
		}
	}
	wrong := p
	wrong.Name = ""
	if _, err := lower.Given(wrong, nil, b, api.Given{}); err != api.ErrName {
		t.Error("a pipeline that is not right", err)
	}
	// then what Lower and Image say
	g := api.Given{Images: []api.Image{a, c}, Params: []api.Value{k, one}}
	for i, x := range []struct {
		b      api.Box
		orders []int
		limit  int
		err    api.Errno
	}{{api.Box{{Extent: 0}}, []int{-1}, -1, api.ErrRange}, {b, make([]int, 257), -1, api.ErrMany}, {b, []int{1001}, 9, api.ErrRange}, {b, nil, -1, api.ErrRange}, {b, nil, 1000001, api.ErrRange}, {b, nil, 9, api.ErrLimit}, {b, make([]int, 256), 1000000, api.OK}} {
		if im, err := lower.Realize(p, nil, x.b, g, x.orders, x.limit); err != x.err || err != api.OK && len(im.Box) > 0 {
			t.Error(i, err)
		}
	}
}

// TestMemory changes results, and looks whether arguments change.
func TestMemory(t *testing.T) {
	p, b, in := pipeline(t, example...), api.Box{{Extent: 16}}, []api.Box{{{Min: -1, Extent: 19}}}
	s := schedule(t, "out.0 split x xo xi 2 exact", "f compute_at out xo", "f store_root", "f fold x 4")
	im := api.Image{Kind: api.U8, Box: in[0], Strides: []int{1}, Data: make([]uint64, 19)}
	g := api.Given{Images: []api.Image{im}}
	before := fmt.Sprint(p, s, b, in, g)
	spoil := func(l []api.Stmt) {
		for i := range l {
			l[i].Name = "z"
			for k := range l[i].Kids {
				l[i].Kids[k] = 9
			}
			for _, e := range l[i].Exprs {
				for k := range e {
					e[k].Name = "z"
					for j := range e[k].Kids {
						e[k].Kids[j] = 9
					}
				}
			}
		}
	}
	var texts []string
	for range 2 {
		q, err1 := lower.Lower(p, s, b, in)
		l, err2 := lower.Stage(p, s, b, in, "f", 0)
		v, err3 := lower.Value(p, s, b, in, "out", 0, 0)
		held, err4 := lower.Buffers(p, s, b, in)
		given, err5 := lower.Given(p, s, b, g)
		texts = append(texts, fmt.Sprint(q, l, v, held, given, err1+err2+err3+err4+err5))
		spoil(q.Stmts)
		spoil(l)
		spoil([]api.Stmt{{Exprs: []api.Expr{v}}})
		q.Buffers[0].Box[0].Min, q.Buffers[1].Box[0].Min = 9, 9
		held[0].Storage.Dims[0].Extent, held[1].Storage.Dims[0].Extent = 9, 9
		given.Images[0].Data[0], given.Images[0].Box[0].Min = 9, 9
	}
	if after := fmt.Sprint(p, s, b, in, g); after != before || texts[0] != texts[1] {
		t.Error("arguments were changed", before, after, texts)
	}
	if out, err := lower.Realize(p, s, b, g, nil, 10000); len(out.Data) != 16 || err != api.OK {
		t.Error(out, err)
	}
}

// TestAnyArguments has pipelines, schedules, boxes and numbers of any form.
func TestAnyArguments(t *testing.T) {
	t.Parallel()
	right := 0
	for seed := range int64(150) {
		p, s, b, in, m := made(seed)
		p, s, b = m.Spoilt(p, s, b)
		if m.Intn(3) == 0 {
			in = in[:m.Intn(len(in)+1)]
		}
		if m.Intn(3) == 0 && len(in) > 0 {
			in[0] = api.Box{{Min: m.Number(), Extent: m.Number()}}
		}
		name, stage, part := []string{"f0", "out", "", "g"}[m.Intn(4)], m.Number(), m.Number()
		l, want := lower.Buffers(p, s, b, in)
		e, err1 := lower.Value(p, s, b, in, name, stage, part)
		x, err2 := lower.Stage(p, s, b, in, name, stage)
		q, err3 := lower.Lower(p, s, b, in)
		if want != api.OK && (err1 != want || err2 != want || err3 != want || len(l)+len(e)+len(x)+len(q.Stmts) > 0) {
			t.Fatal(seed, err1, err2, err3, want)
		}
		if err1 != api.OK && len(e) > 0 || err2 != api.OK && len(x) > 0 || err3 != api.OK && len(q.Stmts) > 0 {
			t.Fatal(seed, "beside an error", e, x, q)
		}
		var g api.Given
		for range m.Intn(3) {
			g.Images = append(g.Images, api.Image{Kind: m.Number(), Box: b, Strides: []int{m.Number()}})
		}
		given, err1 := lower.Given(p, s, b, g)
		im, err2 := lower.Realize(p, s, b, g, []int{m.Number()}, m.Number())
		if err1 != api.OK && (err2 != err1 || len(given.Images)+len(given.Params)+len(im.Box) > 0) {
			t.Fatal(seed, "Given", err1, err2)
		}
		if want == api.OK {
			right++
		}
	}
	if right < 5 {
		t.Error("rare", right)
	}
}
