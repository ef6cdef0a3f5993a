package legal_test

import (
	"math"
	"slices"
	"strconv"
	"strings"
	"testing"

	"halation/api"
	"halation/front"
	"halation/legal"
	"halation/nest"
	"halation/sched"
)

// pipeline returns the pipeline of the lines between its first and its last one.
func pipeline(t testing.TB, lines string) api.Pipeline {
	t.Helper()
	p, line, column, err := front.Parse("pipeline p\n" + lines + "\nend\n")
	if err != api.OK {
		t.Fatal("Parse", lines, line, column, err)
	}
	return p
}

func schedule(t testing.TB, s string) api.Schedule {
	t.Helper()
	if s != "" {
		s = strings.ReplaceAll(s, "; ", "\n") + "\n"
	}
	out, line, err := sched.Parse(s)
	if err != api.OK {
		t.Fatal("Parse", s, line, err)
	}
	return out
}

// box returns the box of pairs of a Min and an Extent.
func box(l ...int) api.Box {
	var out api.Box
	for i := 0; i < len(l); i += 2 {
		out = append(out, api.Range{Min: l[i], Extent: l[i+1]})
	}
	return out
}

const (
	// running is P of the examples, spread is Q.
	running = "func f(x, y) i32 = x + y\nover r 1 7\nset r, y = f(r - 1, y) + 1\nfunc out(x, y) i32 = f(x, y)"
	spread  = "func f(x, y) i32 = x + y\nover r 0 4\nset 2 * r, y = f(2 * r, y) + 1\nfunc out(x, y) i32 = f(x, y)"
	// rows has a function that is read in three rows, and another one for it
	rows = "func e(x, y) i32 = x * y\nfunc f(x, y) i32 = e(x, y) + e(x + 1, y)\nfunc out(x, y) i32 = f(x, y - 1) + f(x, y) + f(x, y + 1)"
	flat = "func out(x, y, z) i32 = x"
	// twice has two axes, of which the first one is apart
	twice = "func f(x) i32 = x\nover r 0 3\nover q 0 2\nset r * 2 = f(r * 2) + q\nfunc out(x) i32 = f(x)"
)

// Promise P17.2.

func TestCheck(t *testing.T) {
	eight := box(0, 8, 0, 8)
	v := func(f string, stage int, loop ...string) legal.Verdict {
		return legal.Verdict{Func: f, Stage: stage, Loop: strings.Join(loop, "")}
	}
	none := legal.Verdict{}
	turned := "; f.1 split r ro ri 2 guard; f.1 reorder ro ri"
	for i, x := range []struct {
		p, s string
		b    api.Box
		want legal.Verdict
		err  api.Errno
	}{
		// the examples
		{running, "f compute_root", eight, none, api.OK}, {running, "", eight, v("f", -1), api.ErrState},
		{running, "f compute_root; f.1 parallel r", eight, v("f", 1, "r"), api.ErrRace}, {spread, "f compute_root; f.1 parallel r", eight, none, api.OK}, {running, "f compute_root; f.1 parallel y", eight, none, api.OK}, {spread, "f compute_root; f.1 parallel y", eight, none, api.OK},
		{running, "f compute_root" + turned, eight, v("f", 1), api.ErrOrder}, {spread, "f compute_root" + turned, eight, none, api.OK},
		{running, "f compute_at out y", eight, none, api.OK}, {running, "f compute_at out y; f store_root; f fold y 1", eight, none, api.OK}, {running, "f compute_at out y; f store_root; f fold y 1; out.0 parallel y", eight, v("f", -1), api.ErrRace},
		{running, "f compute_root; out.0 split x xo xi 3 round_up", eight, v("out", -1), api.ErrTail}, {running, "f compute_root; out.0 split x xo xi 3 guard", eight, none, api.OK}, {running, "f compute_root; out.0 split x xo xi 3 shift", eight, none, api.OK}, {running, "f compute_root; out.0 split x xo xi 4 round_up", eight, none, api.OK},
		// what is asked at first
		{running, "f compute_root; g.1 unroll x", nil, v("g", 1), api.ErrUnknown}, {running, "f compute_root; out.3 unroll x", nil, v("out", 3), api.ErrUnknown}, {running, "out compute_root", eight, v("out", 0), api.ErrKind},
		{running, "", box(0, 65, 0, 1), none, api.ErrRange}, {running, "", box(0, 8), none, api.ErrDims}, {running, "", nil, none, api.ErrDims}, {running, "", box(0, 64, 0, 65), none, api.ErrRange},
		{"func e(x) i32 = x\nset 0 = 1\nfunc f(x) i32 = x\nset 0 = 1\nfunc out(x) i32 = x", "", box(0, 4), v("e", -1), api.ErrState}, {"func e(x) i32 = x\nset 0 = 1\nfunc f(x) i32 = x\nset 0 = 1\nfunc out(x) i32 = x", "e compute_root; f store_root", box(0, 4), v("f", -1), api.ErrState}, {"func e(x) i32 = x\nfunc out(x) i32 = x\nset x = 1", "", box(0, 4), none, api.OK},
		{running, "f compute_at out q", eight, none, api.ErrLevel}, {running, "f compute_root; out.0 unroll q", eight, none, api.ErrUnknown},
		// the last function: tails, then the box, dimension by dimension
		{flat, "out.0 split y yo yi 5 round_up; out bound x 0 16", box(0, 8, 0, 8, 0, 8), v("out", -1), api.ErrTail}, {flat, "out bound x 0 8; out bound y 0 8", box(0, 8, 0, 8, 0, 8), none, api.OK}, {flat, "out bound y 0 9", box(0, 8, 0, 8, 0, 8), v("out", -1), api.ErrBounds}, {flat, "out bound z -1 9", box(0, 8, 0, 8, 0, 8), v("out", -1), api.ErrBounds}, {flat, "out bound z 0 7", box(0, 8, 0, 8, 0, 8), none, api.ErrBounds}, {"func out(x) i32 = x\nset 9 = 1", "", box(0, 8), v("out", -1), api.ErrBounds}, {"func out(x) i32 = x\nset 7 = 1", "", box(0, 8), none, api.OK}, {"func out(x) i32 = x\nset -1 = 1", "", box(0, 8), v("out", -1), api.ErrBounds}, {flat, "out bound x -1 10; out memoize", box(0, 8, 0, 8, 0, 8), v("out", -1), api.ErrBounds},
		{"func out(x) i32 = x", "", box(3, 0), none, api.OK}, {"func f(x) i32 = x\nfunc out(x) i32 = f(x)", "f compute_root", box(3, 0), none, api.OK}, {flat, "", box(3, 0, 0, 0, 1, 0), none, api.OK}, {flat, "", box(3, 0, 0, 2, 1, 0), v("out", -1), api.ErrTail},
		// an earlier function comes before a later one
		{running, "f compute_root; f.1 parallel r; out memoize", eight, v("f", 1, "r"), api.ErrRace}, {running, "f compute_root; f.1 parallel y; out memoize", eight, v("out", -1), api.ErrState},
		// memoised
		{running, "f compute_root; f memoize", eight, none, api.OK}, {running, "f compute_at out y; f memoize", eight, v("f", -1), api.ErrState}, {running, "f compute_root; out memoize", eight, v("out", -1), api.ErrState}, {running, "f compute_at out y; f memoize; out.0 vectorize y", eight, v("f", -1), api.ErrState},
		// a vector outside, also around another function; then the storage
		{running, "f compute_at out y; out.0 vectorize y; f store_at out q", eight, v("f", -1), api.ErrLevel}, {rows, "f compute_at out x; e compute_at f x; out.0 vectorize y; f.0 vectorize x", box(0, 8, 0, 4), v("e", -1), api.ErrLevel}, {rows, "f compute_at out x; e compute_at f y; f.0 vectorize x", box(0, 8, 0, 4), none, api.OK}, {rows, "f compute_at out x; e compute_at f y; f.0 vectorize y", box(0, 8, 0, 4), v("e", -1), api.ErrLevel},
		{running, "f compute_at out y; f store_at out x", eight, v("f", -1), api.ErrLevel}, {"func f(x) i32 = x\nfunc out(x) i32 = f(65 * x) + f(65 * x + 1)", "f compute_at out x; f store_root; out.0 parallel x", box(0, 64), v("f", -1), api.ErrLarge}, {"func f(x) i32 = x\nfunc out(x) i32 = f(65 * x) + f(65 * x + 1)", "f compute_at out x; out.0 parallel x", box(0, 64), none, api.OK},
		// loops between
		{running, "f compute_at out x; f store_root; out.0 unroll x; out.0 unroll y", eight, none, api.OK}, {running, "f compute_at out x; f store_at out y; out.0 parallel y", eight, none, api.OK}, {running, "f compute_at out x; f store_at out y; out.0 parallel x", eight, v("f", -1), api.ErrRace}, {running, "f compute_at out x; f store_root; out.0 blocks y; f fold y 1", eight, v("f", -1), api.ErrRace}, {running, "f compute_at out x; f store_root; out.0 threads x; f fold y 1", eight, v("f", -1), api.ErrRace},
		// folds: the first one with an error
		{rows, "f compute_at out y; f store_root; f fold y 3", eight, none, api.OK}, {rows, "f compute_at out y; f store_root; f fold y 2", eight, v("f", -1), api.ErrFold}, {rows, "f compute_at out y; f store_root; f fold y 3; f fold x 7", eight, v("f", -1), api.ErrFold}, {rows, "f compute_at out y; f fold y 2", eight, v("f", -1), api.ErrState}, {rows, "f compute_root; f fold y 64", eight, v("f", -1), api.ErrState}, {rows, "f compute_at out y; f store_root; out.0 unroll y; f fold y 64", eight, v("f", -1), api.ErrRace}, {rows, "f compute_at out y; f store_root; f fold y 2; f.0 parallel x", eight, v("f", -1), api.ErrFold},
		// paths that are too deep, stage by stage
		{rows, "f compute_at out xi; e compute_at f xi" + splits("out", 9) + splits("f", 8) + splits("e", 1), box(0, 8, 0, 4), none, api.OK}, {rows, "f compute_at out xi; e compute_at f xi" + splits("out", 9) + splits("f", 8) + splits("e", 2), box(0, 8, 0, 4), v("e", 0), api.ErrMany}, {rows, "f compute_at out xi; e compute_at f xi" + splits("out", 9) + splits("f", 8) + splits("e", 2) + "; e.0 threads y", box(0, 8, 0, 4), v("e", 0), api.ErrMany}, {rows, "f compute_at out xi; e compute_at f xi" + splits("out", 9) + splits("f", 8) + splits("e", 1) + "; e.0 threads y", box(0, 8, 0, 4), v("e", 0, "y"), api.ErrLevel},
		{running, "f compute_at out xi" + splits("out", 20) + splits("f", 1), eight, v("f", 0), api.ErrMany}, {running, "f compute_at out xi" + splits("out", 20) + turned, eight, v("f", 1), api.ErrMany}, {running, "f compute_at out xi" + splits("out", 20) + "; f.1 unroll r", eight, none, api.OK},
		{running, "f compute_root; f.0 threads x" + turned, eight, v("f", 0, "x"), api.ErrLevel}, {running, "f compute_root; f.1 threads y" + turned, eight, v("f", 1), api.ErrOrder},
		// too many values to go through, whether the axes are apart or not
		{"func f(x) i32 = x\nover r 0 64\nover q 0 64\nset r = q\nfunc out(x) i32 = f(x)", "f compute_root; f.1 split r ro ri 4 guard", box(0, 1), none, api.OK}, {"func f(x) i32 = x\nover r 0 64\nover q 0 64\nset r = q\nfunc out(x) i32 = f(x)", "f compute_root; f.1 split r ro ri 3 guard", box(0, 1), v("f", 1), api.ErrLimit}, {"func f(x, y) i32 = x\nover r 0 64\nover q 0 64\nset r, q = q\nfunc out(x) i32 = f(x, x)", "f compute_root; f.1 split r ro ri 3 guard; f.1 threads ri", box(0, 1), v("f", 1), api.ErrLimit},
		// races: of loops that come from axes that are not apart
		{twice, "f compute_root; f.1 parallel r", box(0, 4), none, api.OK}, {twice, "f compute_root; f.1 parallel q", box(0, 4), v("f", 1, "q"), api.ErrRace}, {twice, "f compute_root; f.1 fuse r q t; f.1 unroll t", box(0, 4), none, api.OK}, {twice, "f compute_root; f.1 fuse r q t; f.1 parallel t", box(0, 4), v("f", 1, "t"), api.ErrRace}, {twice, "f compute_root; f.1 split r ro ri 2 guard; f.1 vectorize ri", box(0, 4), none, api.OK}, {twice, "f compute_root; f.1 split q qo qi 2 guard; f.1 vectorize qi", box(0, 4), v("f", 1, "qi"), api.ErrRace}, {twice, "f compute_root; f.1 split q qo qi 2 guard; f.1 blocks qo", box(0, 4), v("f", 1, "qo"), api.ErrRace}, {twice, "f compute_root; f.1 threads q", box(0, 4), v("f", 1, "q"), api.ErrRace}, {twice, "f compute_root; f.1 blocks q; f.1 parallel r", box(0, 4), v("f", 1, "q"), api.ErrRace}, {twice, "f compute_root; f.1 reorder q r", box(0, 4), v("f", 1), api.ErrOrder},
		// vectors with other loops inside
		{flat, "out.0 vectorize y; out.0 unroll x", box(0, 8, 0, 8, 0, 8), none, api.OK}, {flat, "out.0 vectorize y; out.0 vectorize x", box(0, 8, 0, 8, 0, 8), v("out", 0, "y"), api.ErrVector}, {flat, "out.0 vectorize z; out.0 parallel x", box(0, 8, 0, 8, 0, 8), v("out", 0, "z"), api.ErrVector}, {flat, "out.0 vectorize x; out.0 parallel y", box(0, 8, 0, 8, 0, 8), none, api.OK}, {flat, "out.0 blocks z; out.0 vectorize y; out.0 threads x", box(0, 8, 0, 8, 0, 8), v("out", 0, "y"), api.ErrVector}, {twice, "f compute_root; f.1 vectorize q; f.1 parallel r", box(0, 4), v("f", 1, "q"), api.ErrRace},
		// unrolled loops that are long
		{"func out(x, y) i32 = x", "out.0 fuse x y t; out.0 unroll t", box(0, 8, 0, 8), none, api.OK}, {"func out(x, y) i32 = x", "out.0 fuse x y t; out.0 unroll t", box(0, 13, 0, 5), v("out", 0, "t"), api.ErrLarge},
		// blocks, threads and tasks, also those around the function
		{flat, "out.0 blocks z; out.0 blocks y", box(0, 8, 0, 8, 0, 8), v("out", 0, "y"), api.ErrLevel}, {flat, "out.0 blocks z; out.0 threads y; out.0 threads x", box(0, 8, 0, 8, 0, 8), none, api.OK}, {flat, "out.0 threads z; out.0 blocks y", box(0, 8, 0, 8, 0, 8), v("out", 0, "z"), api.ErrLevel}, {flat, "out.0 blocks z; out.0 parallel x", box(0, 8, 0, 8, 0, 8), v("out", 0, "x"), api.ErrLevel}, {flat, "out.0 parallel z; out.0 blocks y; out.0 threads x", box(0, 8, 0, 8, 0, 8), none, api.OK}, {flat, "out.0 blocks z; out.0 unroll y; out.0 vectorize x", box(0, 8, 0, 8, 0, 8), none, api.OK}, {flat, "out.0 parallel z; out.0 parallel y", box(0, 8, 0, 8, 0, 8), none, api.OK},
		{rows, "f compute_at out y; out.0 blocks y; f.0 threads x", eight, none, api.OK}, {rows, "f compute_at out y; out.0 blocks y; f.0 blocks x", eight, v("f", 0, "x"), api.ErrLevel}, {rows, "f compute_at out y; out.0 blocks y; f.0 parallel x", eight, v("f", 0, "x"), api.ErrLevel}, {rows, "f compute_at out x; e compute_at f x; out.0 blocks y; e.0 threads x", box(0, 8, 0, 4), none, api.OK}, {rows, "f compute_at out y; out.0 parallel y; f.0 threads x", eight, v("f", 0, "x"), api.ErrLevel},
	} {
		got, err := legal.Check(pipeline(t, x.p), schedule(t, x.s), x.b)
		if got != x.want || err != x.err {
			t.Error(i, x.p, "|", x.s, got, err)
		}
	}
	for i, x := range []struct {
		p    api.Pipeline
		s    api.Schedule
		want legal.Verdict
		err  api.Errno
	}{
		{api.Pipeline{}, make(api.Schedule, 65), none, api.ErrName}, {pipeline(t, running), make(api.Schedule, 65), none, api.ErrMany}, {pipeline(t, running), slices.Repeat(schedule(t, "f.1 unroll r"), 65), none, api.ErrMany}, {pipeline(t, running), api.Schedule{{Func: "7", Stage: 99}}, v("7", 99), api.ErrName}, {pipeline(t, running), api.Schedule{{Func: "out", Op: api.Memoize}, {Func: "f", Op: api.Memoize}, {Func: "f", Op: api.Memoize}}, v("f", 0), api.ErrTwice}, {pipeline(t, running), api.Schedule{{Func: "f", Op: api.ComputeRoot}, {Func: "f", Stage: math.MinInt, Op: 99}}, v("f", math.MinInt), api.ErrUnknown},
	} {
		if got, err := legal.Check(x.p, x.s, nil); got != x.want || err != x.err {
			t.Error("errors", i, got, err)
		}
	}
}

// splits splits the loop x again and again, so that there are so many loops more; the innermost one is xi.
func splits(f string, n int) string {
	out, loop := "", "x"
	for range n {
		out += "; " + f + ".0 split " + loop + " " + loop + "o " + loop + "i 1 guard"
		loop += "o"
	}
	return out
}

// Promise P17.1.

func TestApart(t *testing.T) {
	f := func(left, value string, more ...string) string {
		where := ""
		if len(more) > 0 {
			where = "where " + more[0] + "\n"
		}
		return "input a u8 1\nparam k i32 0 3\nfunc f(x, y) i32 = 0\nover r 0 4\nover q 0 3\n" + where + "set " + left + " = " + value + "\nfunc out(x, y) i32 = f(x, y)"
	}
	for i, x := range []struct {
		p    string
		r, q bool
	}{
		{f("r, y", "f(r, y)"), true, false}, {f("x, r", "f(x, r)"), true, false}, {f("r, q", "f(r, q)"), true, true}, {f("r, q", "f(q, q)"), false, true}, {f("r, q", "f(r, r)"), true, false}, {f("r, q", "f(q, r)"), false, false}, {f("r, q", "1"), true, true}, {f("q, r", "f(q, r) + f(q, 0)"), false, true},
		// the coordinate is the same expression, not just the same value
		{f("2 * r, y", "f(2 * r, y)"), true, false}, {f("2 * r, y", "f(r * 2, y)"), false, false}, {f("r + r, y", "f(r + r, y)"), true, false}, {f("r, y", "f(r + 0, y)"), false, false},
		// one term, the variable of the axis
		{f("r + q, y", "1"), false, false}, {f("r * 3 - 7, y", "1"), true, false}, {f("5 - q, y", "1"), false, true}, {f("r + @k, y", "1"), false, false}, {f("r / 2, y", "1"), false, false}, {f("r * r, y", "1"), false, false}, {f("r - r, y", "1"), false, false}, {f("r + q - r, y", "1"), false, true}, {f("i32(a[r]) % 4, y", "1"), false, false}, {f("3, y", "1"), false, false}, {f("r + y, y", "1"), false, false},
		// coefficients
		{f("r * 1048576, y", "1"), true, false}, {f("r * 1048577, y", "1"), false, false}, {f("r * -1048576, y", "1"), true, false}, {f("r * -1048577, y", "1"), false, false}, {f("r * 65536 * 65536, y", "1"), false, false},
		// conditions and Lefts call, too
		{f("r, y", "1", "f(r, y) < 3"), true, false}, {f("r, y", "1", "f(q, y) < 3"), false, false}, {f("r, f(r, r) % 4", "1"), true, false}, {f("r, f(q, r) % 4", "1"), false, false},
		// a variable of another name, or in a dimension that is pure
		{f("x, y", "f(x, y) + r"), false, false},
		// too many terms to have a form
		{f(many()+", y", "1"), false, false},
	} {
		p := pipeline(t, x.p)
		r, err := legal.Apart(p, "f", 1, "r")
		q, err2 := legal.Apart(p, "f", 1, "q")
		if r != x.r || q != x.q || err != api.OK || err2 != api.OK {
			t.Error(i, r, q, err, err2)
		}
	}
	p := pipeline(t, f("r, y", "1"))
	for i, x := range []struct {
		p     api.Pipeline
		f     string
		stage int
		axis  string
		want  api.Errno
	}{{api.Pipeline{}, "g", 0, "", api.ErrName}, {p, "g", 0, "", api.ErrUnknown}, {p, "a", 0, "", api.ErrUnknown}, {p, "f", 0, "", api.ErrRange}, {p, "f", 2, "", api.ErrRange}, {p, "f", -1, "r", api.ErrRange}, {p, "out", 1, "r", api.ErrRange}, {p, "f", math.MaxInt, "r", api.ErrRange}, {p, "f", 1, "", api.ErrUnknown}, {p, "f", 1, "y", api.ErrUnknown}, {p, "f", 1, "s", api.ErrUnknown}} {
		if is, err := legal.Apart(x.p, x.f, x.stage, x.axis); is || err != x.want {
			t.Error("errors", i, is, err)
		}
	}
}

// many is a sum of 33 different atoms.
func many() string {
	out := "r"
	for i := range 33 {
		out += " + i32(a[r + " + strconv.Itoa(i) + "])"
	}
	return out
}

func TestInOrder(t *testing.T) {
	p := pipeline(t, "func f(x, y) i32 = x\nover r 0 4\nover q 0 3\nset r, y = 1\nset x, 0 = 2\nover r 0 64\nover q 0 64\nset x, y = r\nfunc out(x, y) i32 = f(x, y)")
	for i, x := range []struct {
		s     string
		stage int
		b     api.Box
		want  bool
		err   api.Errno
	}{
		{"", 0, box(0, 8, 0, 8), true, api.OK}, {"f.0 split x xo xi 3 round_up; f.0 reorder y xo", 0, box(0, 8, 0, 8), true, api.OK}, {"f.2 rename x z", 2, box(0, 8, 0, 8), true, api.OK}, {"", 3, box(0, 8, 0, 8), true, api.OK},
		{"", 1, box(0, 8, 0, 8), true, api.OK}, {"f.1 reorder q r", 1, box(0, 8, 0, 8), false, api.OK}, {"f.1 reorder y r", 1, box(0, 8, 0, 8), false, api.OK}, {"f.1 reorder y q r", 1, box(0, 8, 0, 8), false, api.OK}, {"f.1 reorder r y q", 1, box(0, 8, 0, 8), true, api.OK},
		{"f.1 split r ro ri 2 exact", 1, box(0, 8, 0, 8), true, api.OK}, {"f.1 split r ro ri 3 guard", 1, box(0, 8, 0, 8), true, api.OK}, {"f.1 split r ro ri 3 guard; f.1 reorder ro ri", 1, box(0, 8, 0, 8), false, api.OK}, {"f.1 split r ro ri 1 guard; f.1 reorder ro ri", 1, box(0, 8, 0, 8), true, api.OK}, {"f.1 split r ro ri 4 guard; f.1 reorder ro ri", 1, box(0, 8, 0, 8), true, api.OK},
		{"f.1 split q qo qi 2 guard; f.1 reorder qo qi", 1, box(0, 8, 0, 8), false, api.OK}, {"f.1 split q qo qi 2 guard; f.1 reorder r qo", 1, box(0, 8, 0, 8), true, api.OK}, {"f.1 split q qo qi 2 guard; f.1 reorder qi r qo", 1, box(0, 8, 0, 8), false, api.OK}, {"f.1 fuse r q t", 1, box(0, 8, 0, 8), true, api.OK}, {"f.1 fuse r q t; f.1 split t to ti 5 guard", 1, box(0, 8, 0, 8), true, api.OK}, {"f.1 fuse r q t; f.1 split t to ti 5 guard; f.1 reorder to ti", 1, box(0, 8, 0, 8), false, api.OK}, {"f.1 reorder q r; f.1 fuse q r t", 1, box(0, 8, 0, 8), false, api.OK},
		// guards of pure variables, and a box without points, say nothing about the domain
		{"f.1 split y yo yi 3 guard; f.1 split r ro ri 3 guard", 1, box(0, 8, 0, 8), true, api.OK}, {"f.1 split y yo yi 3 guard; f.1 reorder q r", 1, box(0, 8, 0, 8), false, api.OK}, {"f.1 split r ro ri 3 guard", 1, box(0, 0, 0, 0), true, api.OK}, {"f.1 split y yo yi 3 guard; f.1 reorder q r", 1, box(0, 0, 0, 0), false, api.OK},
		// too many values
		{"f.3 split r ro ri 4 guard", 3, box(0, 1, 0, 1), true, api.OK}, {"f.3 split r ro ri 3 guard", 3, box(0, 1, 0, 1), false, api.ErrLimit}, {"f.3 split r ro ri 63 guard; f.3 reorder ri ro q", 3, box(0, 1, 0, 1), false, api.ErrLimit},
		{"f.1 split r ro ri 3 exact", 1, box(0, 8, 0, 8), false, api.ErrTail}, {"f.1 unroll z", 1, box(0, 8, 0, 8), false, api.ErrUnknown}, {"", 4, box(0, 8, 0, 8), false, api.ErrRange}, {"", 1, box(0, 8), false, api.ErrDims}, {"g.1 unroll z", 1, box(0, 8, 0, 8), false, api.ErrUnknown},
	} {
		is, err := legal.InOrder(p, schedule(t, x.s), nest.Stage{Func: "f", Number: x.stage, Box: x.b})
		if is != x.want || err != x.err {
			t.Error(i, x.s, is, err)
		}
	}
}

// Promise P17.3.

func TestLevels(t *testing.T) {
	text := func(l []sched.Level) string {
		var out []string
		for _, x := range l {
			out = append(out, strconv.Itoa(x.Kind)+x.Func+x.Loop)
		}
		return strings.Join(out, " ")
	}
	for i, x := range []struct {
		p, s string
		b    api.Box
		f    string
		want string
		err  api.Errno
	}{
		{running, "f compute_root", box(0, 8, 0, 8), "f", "1 2outy 2outx", api.OK}, {running, "", box(0, 8, 0, 8), "f", "1", api.OK}, {running, "f compute_root; f store_root; f memoize", box(0, 8, 0, 8), "f", "1", api.OK}, {running, "f compute_at out y; f store_at out y; f fold y 1; f fold x 1", box(0, 8, 0, 8), "f", "1 2outy 2outx", api.OK},
		// what is said of loops and of limits stays
		{running, "f compute_root; f.1 parallel r", box(0, 8, 0, 8), "f", "", api.OK}, {running, "f compute_root; f bound x 0 8", box(0, 8, 0, 8), "f", "1 2outy 2outx", api.OK}, {running, "f compute_root; f bound x 1 8", box(0, 8, 0, 8), "f", "", api.OK}, {running, "f compute_root; out.0 vectorize x", box(0, 8, 0, 8), "f", "1 2outy", api.OK},
		// functions that are placed alone, in the schedule as it is
		{rows, "", box(0, 4, 0, 4), "e", "1 2outy 2outx", api.OK}, {rows, "", box(0, 4, 0, 4), "f", "1 2outy 2outx", api.OK}, {rows, "f compute_at out y; e compute_root", box(0, 4, 0, 4), "e", "1 2fy 2fx 2outy", api.OK}, {rows, "f compute_at out y; out.0 split x xo xi 2 exact", box(0, 4, 0, 4), "f", "1 2outy 2outxo 2outxi", api.OK}, {rows, "f compute_at out y; e compute_at f y", box(0, 4, 0, 4), "f", "1 2outy 2outx", api.OK},
		// loops of several stages, of which the first one counts
		{"func e(x, y) i32 = x\nfunc out(x, y) i32 = e(x, y)\nset x, y = 2\nover r 0 1\nset x, y = 1", "", box(0, 2, 0, 2), "e", "1 2outy 2outx", api.OK}, {"func e(x, y) i32 = x\nfunc out(x, y) i32 = 0\nover r 0 1\nset x, y = e(x, r)", "", box(0, 2, 0, 2), "e", "1 2outr", api.OK},
		{rows, "e compute_at out q", box(0, 4, 0, 4), "e", "1", api.OK}, {rows, "out.0 unroll q", box(0, 4, 0, 4), "e", "", api.OK}, {rows, "e.0 unroll q", box(0, 4, 0, 4), "e", "", api.OK}, {rows, "e memoize", box(0, 4, 0, 4), "e", "1", api.OK},
		{rows, "", box(0, 4, 0, 4), "out", "", api.ErrKind}, {rows, "", box(0, 4, 0, 4), "q", "", api.ErrUnknown}, {rows, "", box(0, 4, 0, 4), "", "", api.ErrUnknown}, {rows, "", box(0, 4), "q", "", api.ErrDims}, {rows, "", box(0, 65), "q", "", api.ErrRange}, {rows, "out compute_root", nil, "q", "", api.ErrKind},
	} {
		l, err := legal.Levels(pipeline(t, x.p), schedule(t, x.s), x.b, x.f)
		if text(l) != x.want || err != x.err {
			t.Error(i, x.s, x.f, text(l), err)
		}
	}
	// with one directive more the schedule is too long, without that which goes it is not
	p := pipeline(t, running)
	full := schedule(t, strings.TrimPrefix(strings.Repeat("; out.0 rename x z; out.0 rename z x", 32), "; "))
	l, err := legal.Levels(p, full, box(0, 4, 0, 4), "f")
	full[63] = api.Directive{Func: "f", Op: api.ComputeRoot}
	l2, err2 := legal.Levels(p, full, box(0, 4, 0, 4), "f")
	if len(l) > 0 || err != api.OK || text(l2) != "1 2outy 2outz" || err2 != api.OK {
		t.Error("long", text(l), err, text(l2), err2)
	}
	if _, err := legal.Levels(api.Pipeline{}, full, nil, "f"); err != api.ErrName {
		t.Error(err)
	}
}

func TestTailsAndKinds(t *testing.T) {
	for i, x := range []struct {
		p, s         string
		b            api.Box
		f            string
		stage        int
		loop         string
		factor       int
		tails, kinds []int
		err, err2    api.Errno
	}{
		{running, "f compute_root", box(0, 8, 0, 8), "out", 0, "x", 3, []int{api.Guard, api.ShiftInward}, []int{api.Unrolled, api.Vector, api.Tasks, api.Grid}, api.OK, api.OK}, {running, "f compute_root", box(0, 8, 0, 8), "out", 0, "x", 4, []int{0, 1, 2, 3}, []int{1, 2, 3, 4}, api.OK, api.OK}, {running, "f compute_root", box(0, 8, 0, 8), "out", 0, "x", 64, []int{api.Guard}, []int{1, 2, 3, 4}, api.OK, api.OK},
		{running, "f compute_root", box(0, 8, 0, 8), "f", 1, "r", 7, []int{api.Guard, api.Exact}, []int{api.Unrolled}, api.OK, api.OK}, {running, "f compute_root", box(0, 8, 0, 8), "f", 1, "r", 2, []int{api.Guard}, []int{api.Unrolled}, api.OK, api.OK}, {spread, "f compute_root", box(0, 8, 0, 8), "f", 1, "r", 2, []int{api.Guard, api.Exact}, []int{1, 2, 3, 4}, api.OK, api.OK}, {running, "f compute_root", box(0, 8, 0, 8), "f", 0, "x", 3, []int{0, 1, 2}, []int{1, 2, 3, 4}, api.OK, api.OK},
		{running, "f compute_root; out.0 blocks y", box(0, 8, 0, 8), "out", 0, "x", 1, []int{0, 1, 2, 3}, []int{api.Unrolled, api.Vector, api.Lane}, api.OK, api.OK}, {running, "f compute_root; out.0 unroll x", box(0, 8, 0, 8), "out", 0, "x", 1, nil, nil, api.OK, api.OK}, {running, "f compute_root; f memoize; out memoize", box(0, 8, 0, 8), "out", 0, "x", 1, nil, nil, api.OK, api.OK},
		{running, "f compute_root; out.0 rename y u_o", box(0, 8, 0, 8), "out", 0, "x", 2, nil, []int{1, 2, 3, 4}, api.OK, api.OK}, {running, "f compute_root; out.0 rename x u_i", box(0, 8, 0, 8), "out", 0, "u_i", 2, nil, []int{1, 2, 3, 4}, api.OK, api.OK}, {running, "f compute_at out x", box(0, 8, 0, 8), "out", 0, "x", 2, nil, []int{1, 3, 4}, api.OK, api.OK}, {running, "f compute_at out x", box(0, 8, 0, 8), "out", 0, "y", 2, []int{0, 1, 2, 3}, []int{1, 3, 4}, api.OK, api.OK},
		{"func out(x) i32 = x", "", box(0, 40), "out", 0, "x", 20, []int{0, 1, 2, 3}, []int{1, 3, 4}, api.OK, api.OK},
		{running, "f compute_root", box(0, 8, 0, 8), "out", 0, "x", 0, nil, []int{1, 2, 3, 4}, api.ErrRange, api.OK}, {running, "f compute_root", box(0, 8, 0, 8), "out", 0, "x", 65, nil, []int{1, 2, 3, 4}, api.ErrRange, api.OK}, {running, "f compute_root", box(0, 8, 0, 8), "out", 0, "x", math.MinInt, nil, []int{1, 2, 3, 4}, api.ErrRange, api.OK}, {running, "f compute_root", box(0, 8, 0, 8), "out", 0, "x", math.MaxInt, nil, []int{1, 2, 3, 4}, api.ErrRange, api.OK},
		{running, "f compute_root", box(0, 8, 0, 8), "out", 0, "q", 0, nil, nil, api.ErrUnknown, api.ErrUnknown}, {running, "f compute_root", box(0, 8, 0, 8), "f", 1, "x", 0, nil, nil, api.ErrUnknown, api.ErrUnknown}, {rows, "", box(0, 8, 0, 8), "f", 0, "x", 0, nil, nil, api.ErrUnknown, api.ErrUnknown}, {rows, "f compute_at out q", box(0, 8, 0, 8), "e", 0, "x", 0, nil, nil, api.ErrLevel, api.ErrLevel}, {running, "f compute_at out q", box(0, 8, 0, 8), "f", 2, "x", 0, nil, nil, api.ErrRange, api.ErrRange}, {running, "f compute_at out q", box(0, 8, 0, 8), "out", 1, "x", 0, nil, nil, api.ErrRange, api.ErrRange}, {running, "f compute_at out q", box(0, 8, 0, 8), "out", -1, "x", 0, nil, nil, api.ErrRange, api.ErrRange}, {running, "f compute_at out q", box(0, 8, 0, 8), "g", -1, "x", 0, nil, nil, api.ErrUnknown, api.ErrUnknown}, {running, "f compute_at out q", box(0, 8), "g", -1, "x", 0, nil, nil, api.ErrDims, api.ErrDims}, {running, "f compute_at out q", box(0, 65), "g", -1, "x", 0, nil, nil, api.ErrRange, api.ErrRange}, {running, "f compute_at g q", nil, "g", -1, "x", 0, nil, nil, api.ErrUnknown, api.ErrUnknown},
	} {
		p, s := pipeline(t, x.p), schedule(t, x.s)
		tails, err := legal.Tails(p, s, x.b, x.f, x.stage, x.loop, x.factor)
		kinds, err2 := legal.Kinds(p, s, x.b, x.f, x.stage, x.loop)
		if !slices.Equal(tails, x.tails) || err != x.err || !slices.Equal(kinds, x.kinds) || err2 != x.err2 {
			t.Error(i, x.s, x.f, x.loop, tails, err, kinds, err2)
		}
	}
	// a schedule that is too long
	full := schedule(t, "f compute_root"+strings.Repeat("; out.0 rename x z; out.0 rename z x", 31)+"; out memoize")
	full[63] = api.Directive{Func: "out", Op: api.Rename, Vars: []string{"x", "v"}}
	p := pipeline(t, running)
	if _, err := legal.Check(p, full, box(0, 8, 0, 8)); err != api.OK {
		t.Error("full", err)
	}
	tails, err := legal.Tails(p, full, box(0, 8, 0, 8), "out", 0, "v", 2)
	kinds, err2 := legal.Kinds(p, full, box(0, 8, 0, 8), "out", 0, "v")
	if len(tails)+len(kinds) > 0 || err != api.OK || err2 != api.OK {
		t.Error("long", tails, err, kinds, err2)
	}
	if _, err := legal.Kinds(api.Pipeline{}, full, nil, "out", 0, "v"); err != api.ErrName {
		t.Error(err)
	}
}
