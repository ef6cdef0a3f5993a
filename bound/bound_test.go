package bound_test

import (
	"math"
	"slices"
	"strconv"
	"strings"
	"testing"

	"halation/affine"
	"halation/api"
	"halation/bound"
	"halation/front"
	"halation/lang"
	"halation/sched"
)

// pipeline returns the pipeline of the lines between its first and its last one.
func pipeline(t testing.TB, lines string) api.Pipeline {
	t.Helper()
	p, line, column, err := front.Parse("pipeline p\n" + lines + "\nend\n")
	if err != api.OK {
		t.Fatal("Parse", lines, line, column, err)
	}
	return p
}

func schedule(t testing.TB, s string) api.Schedule {
	t.Helper()
	if s != "" {
		s = strings.ReplaceAll(s, "; ", "\n") + "\n"
	}
	out, line, err := sched.Parse(s)
	if err != api.OK {
		t.Fatal("Parse", s, line, err)
	}
	return out
}

// box returns the box of pairs of a Min and an Extent.
func box(l ...int) api.Box {
	var out api.Box
	for i := 0; i < len(l); i += 2 {
		out = append(out, api.Range{Min: l[i], Extent: l[i+1]})
	}
	return out
}

// shown returns a text of regions that is easily read.
func shown(l []bound.Region) string {
	var out []string
	for _, r := range l {
		words := []string{r.Func}
		for _, x := range r.Site {
			words = append(words, "@"+x.Func+"."+strconv.Itoa(x.Stage)+"."+x.Name+"<"+strconv.Itoa(x.Extent))
		}
		for _, d := range r.Dims {
			e, _ := affine.Expr(d.Min)
			s, _ := lang.Print(e, nil)
			words = append(words, "("+s+", "+strconv.Itoa(d.Asked)+", "+strconv.Itoa(d.Extent)+")")
		}
		out = append(out, strings.Join(words, " "))
	}
	return strings.Join(out, "; ")
}

func boxes(l []bound.Named) string {
	var out []string
	for _, x := range l {
		words := []string{x.Name}
		for _, r := range x.Box {
			words = append(words, "("+strconv.Itoa(r.Min)+", "+strconv.Itoa(r.Extent)+")")
		}
		out = append(out, strings.Join(words, " "))
	}
	return strings.Join(out, "; ")
}

const stencil = `input in u8 1
func f(x) i32 = i32(in[x]) + i32(in[x + 1])
func out(x) i32 = f(x - 1) + f(x + 1)`

// deep has two functions that are computed in loops of others, and one with updates.
const deep = `input in u8 2
param k i32 1 3
func a(x, y) i32 = i32(in[x, y]) + i32(in[x + @k, 2 * y])
func b(x, y) i32 = a(x, y - 1) + a(x, y + 1)
func c(x) i32 = 0
over r -2 5
set r = c(r) + i32(in[r, 0])
func out(x, y) i32 = b(x + y, y) - b(x + y + 2, y - 1) + c(x / 2) + c(1 - x)`

// Promise P15.1.

func TestExamples(t *testing.T) {
	for i, x := range []struct {
		p, s          string
		b             api.Box
		want          string
		whole, inputs string
	}{
		{stencil, "f compute_root", box(0, 16), "f (-1, 18, 18); out (0, 16, 16)", "f (-1, 18); out (0, 16)", "in (-1, 19)"},
		{stencil, "f compute_at out xo; out.0 split x xo xi 8 exact", box(0, 16), "f @out.0.xo<2 (s0 * 8 + -1, 10, 10); out (0, 16, 16)", "f (-1, 18); out (0, 16)", "in (-1, 19)"},
		{stencil, "f compute_at out xo; out.0 split x xo xi 6 guard", box(0, 16), "f @out.0.xo<3 (s0 * 6 + -1, 8, 8); out (0, 16, 16)", "f (-1, 20); out (0, 16)", "in (-1, 21)"},
		{stencil, "", box(0, 16), "out (0, 16, 16)", "out (0, 16)", "in (-1, 19)"},
		{stencil, "f compute_root; f bound x -2 32", box(0, 16), "f (-2, 32, 32); out (0, 16, 16)", "f (-2, 32); out (0, 16)", "in (-2, 33)"},
		// the innermost loop of two, tails that round up, and that shift
		{stencil, "f compute_at out x", box(5, 4), "f @out.0.x<4 (s0 + 4, 3, 3); out (5, 4, 4)", "f (4, 6); out (5, 4)", "in (4, 7)"},
		{stencil, "f compute_at out xi; out.0 split x xo xi 8 exact", box(5, 16), "f @out.0.xo<2 @out.0.xi<8 (s0 * 8 + s1 + 4, 3, 3); out (5, 16, 16)", "f (4, 18); out (5, 16)", "in (4, 19)"},
		{stencil, "f compute_root; out.0 split x xo xi 6 round_up", box(0, 16), "f (-1, 20, 20); out (0, 16, 18)", "f (-1, 20); out (0, 18)", "in (-1, 21)"},
		{stencil, "f compute_root; f.0 split x xo xi 5 round_up", box(0, 16), "f (-1, 18, 20); out (0, 16, 16)", "f (-1, 20); out (0, 16)", "in (-1, 21)"},
		{stencil, "f compute_at out xo; out.0 split x xo xi 6 shift", box(0, 16), "f @out.0.xo<3 (-1, 18, 18); out (0, 16, 16)", "f (-1, 18); out (0, 16)", "in (-1, 19)"},
		{stencil, "out bound x -4 32", box(0, 16), "out (-4, 32, 32)", "out (-4, 32)", "in (-5, 35)"},
		// boxes without points, and a fused loop, of which nothing is kept
		{stencil, "f compute_root", box(3, 0), "f (2, 3, 3); out (3, 0, 0)", "f (2, 3); out (3, 0)", "in (2, 4)"},
		{stencil, "f compute_at out x", box(3, 0), "f @out.0.x<0 (s0 + 2, 3, 3); out (3, 0, 0)", "f (2, 3); out (3, 0)", "in (2, 4)"},
		{stencil, "f compute_at out t; out.0 split x xo xi 4 guard; out.0 fuse xi xo t", box(3, 8), "f @out.0.t<8 (2, 10, 10); out (3, 8, 8)", "f (2, 10); out (3, 8)", "in (2, 11)"},
		// kept terms that differ, negative ones, parameters, Lefts
		{deep, "a compute_root; b compute_root; c compute_root", box(0, 8, 0, 4), "a (0, 13, 13) (-2, 7, 7); b (0, 13, 13) (-1, 5, 5); c (-6, 10, 10); out (0, 8, 8) (0, 4, 4)", "a (0, 13) (-2, 7); b (0, 13) (-1, 5); c (-6, 10); out (0, 8) (0, 4)", "in (-2, 18) (-4, 13)"},
		{deep, "b compute_at out y; a compute_at b y; c compute_root", box(0, 8, 0, 4), "a @out.0.y<4 @b.0.y<2 (s0, 10, 10) (s0 + s1 + -2, 3, 3); b @out.0.y<4 (s0, 10, 10) (s0 + -1, 2, 2); c (-6, 10, 10); out (0, 8, 8) (0, 4, 4)", "a (0, 13) (-2, 7); b (0, 13) (-1, 5); c (-6, 10); out (0, 8) (0, 4)", "in (-2, 18) (-4, 13)"},
		{deep, "b compute_at out x; c compute_at out x", box(0, 8, 0, 4), "b @out.0.y<4 @out.0.x<8 (s0 + s1, 3, 3) (s0 + -1, 2, 2); c @out.0.y<4 @out.0.x<8 (-6, 10, 10); out (0, 8, 8) (0, 4, 4)", "b (0, 13) (-1, 5); c (-6, 10); out (0, 8) (0, 4)", "in (-2, 18) (-4, 13)"},
		// the first stage with a loop of this name, also behind the loops of an own site
		{"func f(x, y) i32 = x\nfunc g(x, y) i32 = y\nover r 0 3\nset x, r = f(x, r)\nover r 1 2\nset x, y = g(x, y) + r\nfunc out(x, y) i32 = g(y, x)", "g compute_at out x; f compute_at g r", box(2, 5, 4, 3), "f @out.0.y<3 @out.0.x<5 @g.1.x<1 @g.1.r<3 (s0 + s2 + 4, 1, 1) (s3, 1, 1); g @out.0.y<3 @out.0.x<5 (s0 + 4, 1, 1) (0, 7, 7); out (2, 5, 5) (4, 3, 3)", "f (4, 3) (0, 3); g (4, 3) (0, 7); out (2, 5) (4, 3)", ""},
		// kept terms with negative coefficients, of which one differs
		{"param k i32 -1 2\nfunc f(x, y) i32 = x\nfunc out(x, y) i32 = f(2 - x * 3, y) + f(4 - x * 3, x - y) + f(@k - x * 3, 0)", "f compute_at out x", box(1, 3, 0, 2), "f @out.0.y<2 @out.0.x<3 (s1 * -3 + -4, 6, 6) (0, 4, 4); out (1, 3, 3) (0, 2, 2)", "f (-10, 12) (0, 4); out (1, 3) (0, 2)", ""},
		// updates: what is stored and read in a dimension that is not pure in one of them, and rounds
		{"func f(x, y) i32 = x\nover r -3 2\nset x, r = f(x, r + 9)\nset x, y = f(x, y) + 1\nset y + 1, y = 7\nfunc out(x) i32 = f(x, x)", "f compute_root", box(0, 4), "f (-2, 11, 11) (-3, 11, 11); out (0, 4, 4)", "f (-2, 11) (-3, 11); out (0, 4)", ""},
		{"func f(x, y) i32 = x\nset y, y = 1\nover r 0 10\nset x, r = 2\nfunc out(x, y) i32 = f(x, y)", "f compute_at out x", box(0, 4, 0, 4), "f @out.0.y<4 @out.0.x<4 (0, 10, 10) (0, 10, 10); out (0, 4, 4) (0, 4, 4)", "f (0, 10) (0, 10); out (0, 4) (0, 4)", ""},
		// a limit, and a range that becomes wider within it
		{"func f(x) i32 = x\nover r 0 4\nset r * 2 = 1\nfunc out(x) i32 = f(x)", "f compute_root; f bound x -2 9", box(0, 4), "f (-2, 9, 9); out (0, 4, 4)", "f (-2, 9); out (0, 4)", ""},
		// the output has what its updates store, too
		{"func out(x) i32 = x\nover r -3 2\nset r = 1", "", box(0, 4), "out (-3, 7, 7)", "out (-3, 7)", ""},
	} {
		p, s := pipeline(t, x.p), schedule(t, x.s)
		l, err := bound.Regions(p, s, x.b)
		all, err2 := bound.Whole(p, s, x.b)
		in, err3 := bound.Inputs(p, s, x.b)
		if shown(l) != x.want || err != api.OK || boxes(all) != x.whole || boxes(in) != x.inputs || err2 != api.OK || err3 != api.OK {
			t.Error(i, shown(l), boxes(all), boxes(in), err, err2, err3)
		}
	}
}

func TestVar(t *testing.T) {
	for i, want := range map[int]string{0: "s0", 9: "s9", 10: "s10", 99: "s99"} {
		if s, err := bound.Var(i); s != want || err != api.OK {
			t.Error(i, s, err)
		}
	}
	for _, i := range []int{-1, 100, math.MaxInt, math.MinInt} {
		if s, err := bound.Var(i); s != "" || err != api.ErrRange {
			t.Error(i, s, err)
		}
	}
}

func TestPlaced(t *testing.T) {
	p := pipeline(t, "input in u8 1\nfunc a(x) i32 = i32(in[x])\nfunc dead(x) i32 = a(x)\nfunc b(x) i32 = a(x + 1) * 2\nfunc u(x) i32 = b(x)\nset 0 = 1\nfunc out(x) i32 = b(x) + u(x)")
	for s, want := range map[string]string{
		"u compute_root":                                          "u out",
		"u compute_root; a compute_root":                          "a u out",
		"u compute_at out x; dead store_root":                     "u out", // stored, but computed nowhere
		"u compute_root; b compute_at out x; a compute_at dead x": "a b u out",
		"u compute_root; dead compute_root":                       "u out",
	} {
		out, err := bound.Placed(p, schedule(t, s))
		var names []string
		for _, f := range out.Funcs {
			names = append(names, f.Name)
		}
		if strings.Join(names, " ") != want || err != api.OK || len(out.Inputs) != 1 {
			t.Error(s, names, err)
		}
	}
	long := "x"
	for range 60 {
		long += " + x"
	}
	for i, x := range []struct {
		p    api.Pipeline
		s    api.Schedule
		want api.Errno
	}{
		{api.Pipeline{}, make(api.Schedule, 65), api.ErrName},
		{p, make(api.Schedule, 65), api.ErrMany},
		{p, api.Schedule{{Func: "u", Op: api.Memoize}, {}}, api.ErrName},
		{p, api.Schedule{{Func: "out", Op: api.ComputeRoot}}, api.ErrKind},
		{p, nil, api.ErrState},
		{pipeline(t, "func dead(x) i32 = x\nset 0 = 1\nfunc out(x) i32 = x"), nil, api.ErrState}, // inlined first
		{pipeline(t, "func f(x) i32 = "+long+"\nfunc out(x) i32 = f(x) * f(x) * f(x)"), nil, api.ErrMany},
	} {
		out, err := bound.Placed(x.p, x.s)
		l, err2 := bound.Regions(x.p, x.s, nil)
		if err != x.want || err2 != x.want || out.Name != "" || len(out.Funcs) > 0 || len(l) > 0 {
			t.Error(i, out, err, err2)
		}
	}
}

// many is a sum of 33 different atoms, whose form has too many terms.
func many(v string) string {
	out := "i32(in[" + v + " * 2])"
	for i := range 32 {
		out += " + i32(in[" + v + " + " + strconv.Itoa(i+100) + "])"
	}
	return out
}

// steps splits a loop of out, and fuses it again, so that its variable is twice as often in the offset. From one node on
// there are 9, 25, 57, 121 and 249, and where it is shifted at first 11, 27, 59, 123 and 251.
func steps(loop string, tails ...string) string {
	out := ""
	for _, tail := range tails {
		out += "; out.0 split " + loop + " " + loop + "o " + loop + "i 1 " + tail + "; out.0 fuse " + loop + "i " + loop + "o " + loop
	}
	return out
}

// far reads at values of all kinds of I32.
const far = "func f(x) i32 = x\nfunc g(x) i32 = x\n"

const fg = "f compute_root; g compute_root"

// sumOf is a sum of n terms, in which # is counted from a number on.
func sumOf(term string, from, n int) string {
	var l []string
	for i := range n {
		l = append(l, strings.ReplaceAll(term, "#", strconv.Itoa(from+i)))
	}
	return "(" + strings.Join(l, " + ") + ")"
}

func TestRegionErrors(t *testing.T) {
	five, six := []string{"guard", "exact", "guard", "guard", "guard"}, []string{"shift", "shift", "guard", "guard", "guard"}
	updated := "func f(x, y) i32 = x\nover r 0 4\nset x, r = 1\nfunc out(x, y) i32 = f(x, y)"
	for i, x := range []struct {
		p, s string
		b    api.Box
		want api.Errno
	}{
		{stencil, "f compute_root", nil, api.ErrDims}, {stencil, "f compute_root", box(0, 65, 0, 1), api.ErrRange}, {stencil, "f compute_root", box(0, 4, 0, 4), api.ErrDims}, {deep, "b compute_root; c compute_root", box(0, 4), api.ErrDims},
		// the last function comes first
		{stencil, "out bound x 1 8; f compute_at out q", box(0, 4), api.ErrBounds}, {stencil, "out bound x 0 4; f compute_at out q", box(0, 4), api.ErrLevel},
		{stencil, "out bound x 0 3; f compute_root", box(0, 4), api.ErrBounds}, {stencil, "out bound x 0 4; f compute_root", box(0, 4), api.OK},
		{stencil, "out.0 split x xo xi 3 exact; f compute_at out q", box(0, 4), api.ErrTail}, {stencil, "out.0 split x xo xi 4 exact; f compute_at out xi; out.0 unroll q", box(0, 4), api.ErrUnknown},
		// levels: no such loop, a function that is inlined, or that does not call it, or not all of which do
		{stencil, "f compute_at out y", box(0, 4), api.ErrLevel}, {stencil, "f compute_at out x; out.0 rename x y", box(0, 4), api.ErrLevel}, {stencil, "f compute_at out y; out.0 rename x y", box(0, 4), api.OK},
		{deep, "a compute_at b x; c compute_root", box(0, 4, 0, 4), api.ErrLevel}, {deep, "a compute_at b x; b compute_root; c compute_root", box(0, 4, 0, 4), api.OK},
		{deep, "a compute_at out x; b compute_root; c compute_root", box(0, 4, 0, 4), api.ErrLevel}, {deep, "b compute_at out x; a compute_at out y; c compute_root", box(0, 4, 0, 4), api.OK}, {deep, "b compute_at out y; a compute_at out x; c compute_root", box(0, 4, 0, 4), api.ErrLevel},
		{"func f(x) i32 = x\nfunc g(x) i32 = f(x)\nfunc out(x) i32 = f(x) + g(x)", "f compute_at out x; g compute_root", box(0, 4), api.ErrLevel}, {"func f(x) i32 = x\nfunc g(x) i32 = f(x)\nfunc out(x) i32 = f(x) + g(x)", "f compute_at out x; g compute_at out x", box(0, 4), api.OK},
		{"func f(x) i32 = x\nfunc out(x) i32 = f(x)\nset x = f(x)", "f compute_at out x", box(0, 4), api.ErrLevel}, {"func f(x) i32 = x\nfunc out(x) i32 = 0\nset x = f(x)", "f compute_at out x", box(0, 4), api.ErrLevel}, {"func f(x) i32 = x\nfunc out(x) i32 = 0\nset x = f(x)", "f compute_at out y; out.1 rename x y", box(0, 4), api.OK},
		// coordinates with too many terms or nodes, and what comes before and after
		{"input in u8 1\nfunc f(x, y) i32 = x\nfunc out(x) i32 = f(0, " + many("x") + ")", "f compute_root; f bound x 1 1", box(0, 4), api.ErrMany}, {"input in u8 1\nfunc f(x, y) i32 = x\nfunc out(x) i32 = f(0, " + many("x") + ")", "f compute_at out q; f bound x 1 1", box(0, 4), api.ErrLevel},
		{"func f(x) i32 = x\nfunc out(x) i32 = f(x % 7)", "f compute_root" + steps("x", five...), box(0, 4), api.OK}, {"func f(x) i32 = x\nfunc out(x) i32 = f(x % 7 + x % 5)", "f compute_root" + steps("x", five...), box(0, 4), api.ErrMany},
		{"func f(x) i32 = x\nfunc out(x) i32 = f(3)", "f compute_root" + steps("x", six...), box(0, 4), api.OK}, {"func f(x) i32 = x\nfunc out(x) i32 = f(x)", "f compute_root" + steps("x", six...), box(0, 4), api.ErrMany},
		{"func f(x) i32 = x\nfunc out(x) i32 = f(x / 2)", "f compute_root" + steps("x", "shift", "guard", "guard", "guard", "guard"), box(0, 4), api.OK}, {"func f(x) i32 = x\nfunc out(x) i32 = f(x / 2 % 3)", "f compute_root" + steps("x", "shift", "guard", "guard", "guard", "guard"), box(0, 4), api.ErrMany},
		// limits, dimension by dimension, and ahead of Lefts
		{updated, "f compute_root; f bound y -1 4", box(0, 4, 0, 4), api.ErrBounds}, {updated, "f compute_root; f bound y 0 4", box(0, 4, 0, 4), api.OK}, {updated, "f compute_root; f bound y 0 3", box(0, 3, 0, 3), api.ErrBounds}, {updated, "f compute_root; f bound y 0 3; f bound x 1 9", box(0, 3, 0, 3), api.ErrBounds},
		{"input in u8 1\nfunc f(x, y) i32 = x\nset x, " + many("x") + " = 1\nfunc out(x, y) i32 = f(x, y)", "f compute_root", box(0, 4, 0, 4), api.ErrMany}, {"input in u8 1\nfunc f(x, y) i32 = x\nset x, " + many("x") + " = 1\nfunc out(x, y) i32 = f(x, y)", "f compute_root; f bound y 1 3", box(0, 4, 0, 4), api.ErrBounds},
		{"input in u8 1\nfunc f(x, y) i32 = x\nset x, 0 = f(x, " + many("x") + ")\nfunc out(x, y) i32 = f(x, y)", "f compute_root", box(0, 4, 0, 4), api.ErrMany}, {"input in u8 1\nfunc f(x, y) i32 = x\nset x, 0 = 1\nwhere f(x, " + many("x") + ") < 1\nset x, 0 = 2\nfunc out(x, y) i32 = f(x, y)", "f compute_root", box(0, 4, 0, 4), api.ErrMany},
		// rounds: the fourth one still changes something, or it does not
		{"func f(x, y) i32 = x\nset y + 1, y = 1\nset x, x + 1 = 1\nfunc out(x, y) i32 = f(x, y)", "f compute_root", box(0, 4, 0, 4), api.ErrOpen},
		{"func f(x, y) i32 = x\nset y + 1, y = 1\nset x, min(x + 1, 4) = 1\nfunc out(x, y) i32 = f(x, y)", "f compute_root", box(0, 4, 0, 4), api.OK},
		{"func f(x, y) i32 = x\nset y + 1, y = 1\nset x, min(x + 1, 7) = 1\nfunc out(x, y) i32 = f(x, y)", "f compute_root", box(0, 4, 0, 4), api.OK},
		{"func f(x, y) i32 = x\nset y + 1, y = 1\nset x, min(x + 1, 8) = 1\nfunc out(x, y) i32 = f(x, y)", "f compute_root", box(0, 4, 0, 4), api.ErrOpen},
		{"func f(x, y) i32 = x\nset y + 1, y = 1\nset x, x + 1 = 1\nfunc out(x, y) i32 = f(x, y)", "f compute_root; f bound x 0 4", box(0, 4, 0, 4), api.ErrOpen},
		// ends that are open, or just far away, or not even that
		{far + "func out(x) i32 = f(g(x))", fg, box(0, 4), api.ErrLarge}, {far + "func out(x) i32 = f(g(x) * 511)", fg, box(0, 4), api.ErrLarge}, {far + "func out(x) i32 = f(g(x) * 512)", fg, box(0, 4), api.ErrLarge}, {far + "func out(x) i32 = f(g(x) * 513)", fg, box(0, 4), api.ErrOpen}, {far + "func out(x) i32 = f(g(x) * -513)", fg, box(0, 4), api.ErrOpen},
		{far + "func out(x) i32 = f(max(g(x), 0) * 513)", fg, box(0, 4), api.ErrOpen}, {far + "func out(x) i32 = f(max(g(x), 0) * -513)", fg, box(0, 4), api.ErrOpen}, {far + "func out(x) i32 = f(max(g(x), 0) * 511)", fg, box(0, 4), api.ErrLarge},
		{far + "func out(x) i32 = f(g(x) * 513)", fg + "; f bound x 0 4", box(0, 4), api.ErrBounds},
		// 2^64, and 2^62 twice with both signs
		{far + "func out(x) i32 = f(" + sumOf("min(g(x + #), -2147483648) * -2147483648", 0, 4) + ")", fg, box(0, 4), api.ErrOpen},
		{far + "func out(x) i32 = f(" + sumOf("min(g(x + #), -2147483648) * -2147483648", 0, 2) + " - " + sumOf("max(g(x + #), 2147483647) * 2147483647", 2, 2) + ")", fg, box(0, 4), api.ErrLarge},
		{far + "func out(x) i32 = f(" + sumOf("min(g(x + #), -2147483648) * -2147483648", 0, 6) + " + " + sumOf("max(g(x + #), 2147483647) * -2147483648", 6, 6) + ")", fg, box(0, 4), api.ErrLarge},
		{far + "func out(x) i32 = f(" + sumOf("g(x + #) * 2147483647", 0, 12) + ")", fg, box(0, 4), api.ErrOpen},
		{"func f(x, y) i32 = x\nset x, f(x, f(x, 0) * 600) = 1\nfunc out(x, y) i32 = f(x, y)", "f compute_root", box(0, 4, 0, 4), api.ErrOpen},
		// what is asked is too large
		{stencil, "f compute_root", box(0, 62), api.OK}, {stencil, "f compute_root", box(0, 63), api.ErrLarge},
		{stencil, "f compute_root", box(-api.MaxCoord+1, 4), api.OK}, {stencil, "f compute_root", box(-api.MaxCoord, 4), api.ErrLarge}, {stencil, "f compute_root", box(api.MaxCoord-4, 4), api.OK}, {stencil, "f compute_root", box(api.MaxCoord-3, 4), api.ErrLarge}, {stencil, "", box(api.MaxCoord, 1), api.OK}, {stencil, "", box(-api.MaxCoord, 1), api.OK}, {stencil, "", box(api.MaxCoord+1, 0), api.ErrRange},
		{stencil, "f compute_at out x", box(-api.MaxCoord, 4), api.ErrLarge}, {stencil, "f compute_at out x", box(api.MaxCoord-4, 4), api.OK}, {stencil, "f compute_at out x", box(api.MaxCoord-3, 4), api.ErrLarge},
		{"func f(x) i32 = x\nfunc out(x) i32 = f(0 - x)", "f compute_at out x", box(api.MaxCoord-3, 4), api.OK}, {"func f(x) i32 = x\nfunc out(x) i32 = f(-1 - x)", "f compute_at out x", box(api.MaxCoord-3, 4), api.ErrLarge},
		{"func f(x, y) i32 = x\nfunc out(x, y) i32 = f(x, y) + f(x + 1, y)", "f compute_root", box(0, 63, 0, 64), api.OK}, {"func f(x, y) i32 = x\nfunc out(x, y) i32 = f(x, y) + f(x + 1, y)", "f compute_root", box(0, 64, 0, 64), api.ErrLarge}, {"func f(x, y, z) i32 = x\nfunc out(x, y) i32 = f(x, y, x % 2)", "f compute_root", box(0, 64, 0, 32), api.OK}, {"func f(x, y, z) i32 = x\nfunc out(x, y) i32 = f(x, y, x % 2)", "f compute_root", box(0, 64, 0, 33), api.ErrLarge},
		// dimension by dimension: limits, and sizes
		{"func f(x, y) i32 = x\nover r 0 4\nset x, r = 1\nfunc out(x, y) i32 = f(x * 40, y)", "f compute_root; f bound y 0 3", box(0, 3, 0, 3), api.ErrLarge}, {"func f(x, y) i32 = x\nover r 0 4\nset r, y = 1\nfunc out(x, y) i32 = f(x, y * 40)", "f compute_root; f bound x 0 3", box(0, 3, 0, 3), api.ErrBounds},
		// nests, stage by stage, and how many points are computed
		{stencil, "f compute_root; f.0 split x xo xi 63 round_up", box(0, 62), api.ErrLarge}, {stencil, "f compute_root; f.0 split x xo xi 32 round_up", box(0, 61), api.OK}, {stencil, "f compute_root; f.0 split x xo xi 5 exact", box(0, 9), api.ErrTail}, {stencil, "f compute_root; f.0 split x xo xi 5 exact", box(0, 8), api.OK},
		{updated, "f compute_root; f.0 unroll q; f.1 split x xo xi 2 shift", box(0, 4, 0, 4), api.ErrUnknown}, {updated, "f compute_root; f.0 unroll x; f.1 split x xo xi 2 shift; f.1 unroll q", box(0, 4, 0, 4), api.ErrTail},
		{stencil, "f compute_root; f.0 split x xo xi 4 round_up", box(api.MaxCoord-6, 6), api.OK}, {stencil, "f compute_root; f.0 split x xo xi 4 round_up", box(api.MaxCoord-6, 5), api.OK}, {stencil, "f compute_root; f.0 split x xo xi 4 round_up", box(api.MaxCoord-5, 5), api.ErrLarge},
		{stencil, "f compute_at out x; f.0 split x xo xi 2 round_up", box(api.MaxCoord-6, 5), api.OK}, {stencil, "f compute_at out x; f.0 split x xo xi 2 round_up", box(api.MaxCoord-6, 6), api.ErrLarge},
		{"func out(x, y) i32 = x", "out.0 split x xo xi 10 round_up; out.0 split y yo yi 10 round_up", box(0, 60, 0, 60), api.OK}, {"func out(x, y) i32 = x", "out.0 split x xo xi 9 round_up; out.0 split y yo yi 32 round_up; out.0 unroll yi", box(0, 63, 0, 64), api.OK}, {"func out(x, y, z) i32 = x", "out.0 split x xo xi 3 round_up", box(0, 16, 0, 16, 0, 16), api.ErrLarge},
		{"func out(x) i32 = x", "out.0 split x xo xi 9 round_up", box(0, 64), api.ErrLarge},
	} {
		l, err := bound.Regions(pipeline(t, x.p), schedule(t, x.s), x.b)
		if err != x.want || err != api.OK && len(l) > 0 {
			t.Error(i, x.p, x.s, shown(l), err)
		}
	}
}

func TestPathErrors(t *testing.T) {
	p, b := pipeline(t, deep), box(0, 4, 0, 4)
	s := schedule(t, "b compute_at out y; c compute_root; out.0 split x xo xi 2 guard; c.1 rename r q")
	for i, x := range []struct {
		p     api.Pipeline
		f     string
		stage int
		want  string
		text  string
		err   api.Errno
	}{
		{p, "b", 0, " out.0.y<4 b.0.y<2 b.0.x<6", "s0 + s2; s0 + -1 + s1", api.OK},
		{p, "c", 0, " c.0.x<5", "-2 + s0", api.OK},
		{p, "c", 1, " c.1.q<5", "-2 + s0", api.OK},
		{p, "out", 0, " out.0.y<4 out.0.xo<2 out.0.xi<2", "0 + (s1 * 2 + s2); 0 + s0", api.OK},
		{p, "a", 0, "", "", api.ErrUnknown}, {p, "", 0, "", "", api.ErrUnknown}, {p, "in", -1, "", "", api.ErrUnknown}, {p, "b", 1, "", "", api.ErrRange}, {p, "c", 2, "", "", api.ErrRange}, {p, "c", -1, "", "", api.ErrRange}, {p, "out", math.MaxInt, "", "", api.ErrRange},
		{api.Pipeline{}, "a", 1, "", "", api.ErrName},
	} {
		l, err := bound.Path(x.p, s, b, x.f, x.stage)
		if text(l) != x.want || err != x.err || err != api.OK && len(l) > 0 {
			t.Error("Path", i, text(l), err)
		}
		e, err := bound.Coordinates(x.p, s, b, x.f, x.stage)
		var words []string
		for _, c := range e {
			s, _ := lang.Print(c, nil)
			words = append(words, s)
		}
		if strings.Join(words, "; ") != x.text || err != x.err {
			t.Error("Coordinates", i, words, err)
		}
	}
	// the offset of x has 255 nodes
	q := pipeline(t, "func f(x) i32 = x\nfunc out(x, y) i32 = f(3)")
	s = schedule(t, "f compute_root"+steps("x", "shift", "shift", "guard", "guard", "guard"))
	l, err := bound.Path(q, s, b, "out", 0)
	e, err2 := bound.Coordinates(q, s, b, "out", 0)
	if len(l) != 2 || err != api.OK || len(e) > 0 || err2 != api.ErrMany {
		t.Error("ErrMany", l, err, len(e), err2)
	}
}

// variables returns a form of multiples of variables, and a constant.
func variables(constant int, l ...any) affine.Form {
	out := affine.Form{Const: constant}
	for i := 0; i < len(l); i += 2 {
		out.Terms = append(out.Terms, affine.Term{Coeff: l[i].(int), Atom: api.Expr{{Op: api.EVar, Kind: api.I32, Lanes: 1, Name: l[i+1].(string)}}})
	}
	return out
}

func TestAt(t *testing.T) {
	loops := func(extents ...int) []bound.Loop {
		var out []bound.Loop
		for _, n := range extents {
			out = append(out, bound.Loop{Extent: n})
		}
		return out
	}
	dims := func(l ...bound.Dim) []bound.Dim { return l }
	dim := func(f affine.Form, extent int) bound.Dim { return bound.Dim{Min: f, Extent: extent} }
	hundred := loops(slices.Repeat([]int{2}, 100)...)
	ones := slices.Repeat([]int{1}, 100)
	good := dim(variables(0), 1)
	for i, x := range []struct {
		r      bound.Region
		values []int
		want   api.Box
		err    api.Errno
	}{
		{bound.Region{Dims: dims(good)}, nil, box(0, 1), api.OK},
		{bound.Region{Site: loops(3, 5), Dims: dims(dim(variables(4, 2, "s0", -1, "s1"), 7), dim(variables(-9, 3, "s1"), 0))}, []int{2, 4}, box(4, 7, 3, 0), api.OK},
		{bound.Region{Site: hundred, Dims: dims(dim(variables(0, 1, "s10", 5, "s98", 1, "s99"), 7))}, ones, box(7, 7), api.OK},
		{bound.Region{Site: append(loops(2), hundred...), Dims: dims(good)}, ones, nil, api.ErrMany}, {bound.Region{Dims: dims(good, good, good, good)}, ones, nil, api.ErrMany},
		{bound.Region{Site: loops(2)}, nil, nil, api.ErrShape}, {bound.Region{Site: loops(2)}, []int{1, 1}, nil, api.ErrShape}, {bound.Region{}, []int{9}, nil, api.ErrShape},
		{bound.Region{Site: loops(2, 3), Dims: dims(dim(affine.Form{Const: 1 << 40}, 1))}, []int{2, 0}, nil, api.ErrRange}, {bound.Region{Site: loops(2, 3), Dims: dims(dim(variables(0, 0, "s0"), 1))}, []int{0, 3}, nil, api.ErrRange}, {bound.Region{Site: loops(2, 3), Dims: dims(dim(variables(0, 0, "s0"), 1))}, []int{0, -1}, nil, api.ErrRange}, {bound.Region{Site: loops(0)}, []int{0}, nil, api.ErrRange}, {bound.Region{Site: loops(-3)}, []int{-4}, nil, api.ErrRange},
		{bound.Region{Dims: dims(dim(affine.Form{Const: 1 << 40}, 65))}, nil, nil, api.ErrRange}, {bound.Region{Dims: dims(dim(variables(0, 0, "s7"), 65))}, nil, nil, api.ErrForm}, {bound.Region{Site: loops(2), Dims: dims(dim(variables(0, 1, "s1"), 65))}, []int{0}, nil, api.ErrUnknown}, {bound.Region{Site: loops(2), Dims: dims(dim(variables(0, 1, "x"), 65))}, []int{0}, nil, api.ErrUnknown},
		{bound.Region{Site: loops(2), Dims: dims(dim(variables(0, 1, "s0"), 65))}, []int{0}, nil, api.ErrRange}, {bound.Region{Dims: dims(dim(variables(0), -1))}, nil, nil, api.ErrRange}, {bound.Region{Dims: dims(dim(variables(0), -1), dim(variables(0, 1, "s0"), 1))}, nil, nil, api.ErrRange}, {bound.Region{Dims: dims(dim(variables(0), 65), dim(variables(0, 1, "s0"), 1))}, nil, nil, api.ErrRange}, {bound.Region{Dims: dims(dim(variables(0, 1, "s0"), 1), dim(variables(0), 65))}, nil, nil, api.ErrUnknown},
		{bound.Region{Site: loops(2), Dims: dims(bound.Dim{Min: affine.Form{Terms: []affine.Term{{Coeff: 1, Atom: api.Expr{{Op: api.EParam, Kind: api.I32, Lanes: 1, Name: "s0"}}}}}, Extent: 1})}, []int{0}, nil, api.ErrUnknown},
		{bound.Region{}, nil, nil, api.ErrDims}, {bound.Region{Dims: dims(dim(variables(0), 64), dim(variables(0), 64))}, nil, box(0, 64, 0, 64), api.OK}, {bound.Region{Dims: dims(dim(variables(0), 64), dim(variables(0), 64), dim(variables(0), 2))}, nil, nil, api.ErrMany},
		{bound.Region{Site: loops(9), Dims: dims(dim(variables(0, api.MaxCoord, "s0"), 1))}, []int{1}, box(api.MaxCoord, 1), api.OK}, {bound.Region{Site: loops(9), Dims: dims(dim(variables(1, api.MaxCoord, "s0"), 1))}, []int{1}, nil, api.ErrRange}, {bound.Region{Site: loops(9), Dims: dims(dim(variables(0, api.MaxCoord, "s0"), 2))}, []int{1}, nil, api.ErrRange},
		// values of forms are numbers of I32, whatever the values of loops are
		{bound.Region{Site: loops(9), Dims: dims(dim(variables(5, math.MaxInt32, "s0"), 2))}, []int{2}, box(3, 2), api.OK}, {bound.Region{Site: loops(math.MaxInt), Dims: dims(dim(variables(5, 3, "s0"), 2))}, []int{1 << 40}, box(5, 2), api.OK},
	} {
		if b, err := bound.At(x.r, x.values); !slices.Equal(b, x.want) || err != x.err {
			t.Error(i, b, err)
		}
	}
}

// Promise P15.2.

func TestInputErrors(t *testing.T) {
	two := "input a u8 1\ninput b u8 2\ninput c i32 1\n"
	for i, x := range []struct {
		p, s string
		b    api.Box
		want string
		err  api.Errno
	}{
		{two + "func out(x) i32 = i32(b[x, 2 * x]) + i32(a[3 - x])", "", box(0, 4), "a (0, 4); b (0, 4) (0, 7)", api.OK},
		{two + "func out(x) i32 = x", "", box(0, 4), "", api.OK},
		// dead functions read nothing, Lefts and conditions do
		{two + "func d(x) i32 = c[x * 64]\nfunc out(x) i32 = 0\nover r 0 2\nwhere 0 < c[r * 2]\nset i32(a[r + 7]) % 2 = i32(b[r, 9])", "", box(0, 4), "a (7, 2); b (0, 2) (9, 1); c (0, 3)", api.OK},
		{two + "func out(x) i32 = i32(a[i32(b[x, 0]) / 8])", "", box(0, 4), "a (0, 32); b (0, 4) (0, 1)", api.OK},
		{two + "func out(x) i32 = i32(a[i32(b[x, 0]) / 4])", "", box(0, 4), "a (0, 64); b (0, 4) (0, 1)", api.OK}, {two + "func out(x) i32 = i32(a[i32(b[x, 0]) / 4 + x])", "", box(0, 4), "", api.ErrLarge}, {two + "func out(x) i32 = i32(a[x * 21])", "", box(0, 4), "a (0, 64)", api.OK},
		{two + "func out(x) i32 = i32(a[x - 1])", "", box(-api.MaxCoord, 4), "", api.ErrLarge}, {two + "func out(x) i32 = i32(a[x + 1])", "", box(api.MaxCoord-3, 4), "", api.ErrLarge}, {two + "func out(x) i32 = i32(a[x + 1])", "", box(api.MaxCoord-4, 4), "a (1048573, 4)", api.OK}, {two + "func out(x) i32 = i32(a[x - 1])", "", box(-api.MaxCoord+1, 4), "a (-1048576, 4)", api.OK},
		{two + "func out(x, y) i32 = i32(b[x, y])", "", box(0, 64, 0, 64), "b (0, 64) (0, 64)", api.OK}, {two + "func f(x, y) i32 = i32(b[x, y]) + i32(b[x + 1, y])\nfunc out(x, y) i32 = f(x, y)", "f compute_root", box(0, 63, 0, 64), "b (0, 64) (0, 64)", api.OK}, {"input b u8 3\nfunc out(x, y) i32 = i32(b[x, y, x]) + i32(b[x, y, y])", "", box(0, 16, 0, 16), "b (0, 16) (0, 16) (0, 16)", api.OK}, {"input b u8 3\nfunc out(x, y) i32 = i32(b[x, y, x]) + i32(b[x, y, y + 1])", "", box(0, 16, 0, 16), "", api.ErrLarge},
		// open, input by input, coordinate by coordinate: those of Lefts before those of values
		{two + "func out(x) i32 = i32(a[c[x] * 513])", "", box(0, 4), "", api.ErrOpen}, {two + "func out(x) i32 = i32(a[c[x] * 511])", "", box(0, 4), "", api.ErrLarge}, {two + "func out(x) i32 = i32(a[c[x] * 511]) + i32(a[c[x] * -513])", "", box(0, 4), "", api.ErrOpen},
		{two + "func out(x) i32 = i32(b[c[x] * 513, x]) + i32(a[c[x]])", "", box(0, 4), "", api.ErrLarge}, {two + "func out(x) i32 = i32(b[c[x], x]) + i32(a[c[x] * 513])", "", box(0, 4), "", api.ErrOpen},
		{"input a u8 2\ninput in i32 1\nfunc out(x) i32 = i32(a[in[x] * 513, " + strings.ReplaceAll(many("x"), "i32(in", "(in") + "])", "", box(0, 4), "", api.ErrOpen}, {"input a u8 2\ninput in i32 1\nfunc out(x) i32 = i32(a[" + strings.ReplaceAll(many("x"), "i32(in", "(in") + ", in[x] * 513])", "", box(0, 4), "", api.ErrMany},
		{"input a u8 1\ninput in i32 1\nfunc out(x) i32 = i32(a[in[x] * 513])\nset i32(a[" + strings.ReplaceAll(many("0"), "i32(in", "(in") + "]) % 2 = 1", "", box(0, 4), "", api.ErrOpen},
		{"input a u8 1\ninput in i32 1\nfunc out(x) i32 = 0\nset i32(a[" + strings.ReplaceAll(many("0"), "i32(in", "(in") + "]) % 2 = i32(a[in[0] * 513])", "", box(0, 4), "", api.ErrMany}, {"input a u8 1\ninput in i32 1\nfunc out(x) i32 = 0\nset i32(a[in[0] * 513]) % 2 = i32(a[" + strings.ReplaceAll(many("0"), "i32(in", "(in") + "])", "", box(0, 4), "", api.ErrOpen},
		{"input a u8 1\ninput in i32 1\nfunc out(x) i32 = 0\nwhere 0 < i32(a[in[0] * 513])\nset 0 = i32(a[" + strings.ReplaceAll(many("0"), "i32(in", "(in") + "])", "", box(0, 4), "", api.ErrMany},
		{two + "func out(x) i32 = i32(a[x % 7 + x % 5])", "out compute_root", box(0, 4), "", api.ErrKind}, {two + "func out(x) i32 = i32(a[x % 7 + x % 5])", "out.0 rename x y" + steps("y", "guard", "guard", "guard", "guard", "guard"), box(0, 4), "", api.ErrMany},
		{two + "func out(x) i32 = i32(a[x])", "out.0 unroll y", box(0, 4), "", api.ErrUnknown},
	} {
		l, err := bound.Inputs(pipeline(t, x.p), schedule(t, x.s), x.b)
		if boxes(l) != x.want || err != x.err {
			t.Error(i, x.p, boxes(l), err)
		}
	}
}

func TestCheckInputs(t *testing.T) {
	p := pipeline(t, "input a u8 1\ninput b u8 2\ninput c i32 1\nfunc out(x) i32 = i32(b[x, 2 * x]) + c[3 - x]")
	b := box(0, 4)
	for i, x := range []struct {
		b     api.Box
		given []api.Box
		want  api.Errno
	}{
		{b, []api.Box{nil, box(0, 4, 0, 7), box(0, 4)}, api.OK}, {b, []api.Box{box(0, -1), box(-1, 6, -1, 9), box(-9, 30)}, api.OK},
		{nil, nil, api.ErrDims}, {b, nil, api.ErrShape}, {b, []api.Box{nil, nil, nil, nil}, api.ErrShape},
		{b, []api.Box{nil, nil, box(0, 65)}, api.ErrDims}, {b, []api.Box{nil, box(0, 65), box(0, 65)}, api.ErrRange}, {b, []api.Box{nil, box(0, 64, 0, 64), box(0, 65)}, api.ErrRange}, {b, []api.Box{nil, box(0, 4), nil}, api.ErrDims}, {b, []api.Box{nil, box(0, 4, 0, 7, 0, 1), nil}, api.ErrDims},
		{b, []api.Box{nil, box(1, 4, 0, 7), nil}, api.ErrBounds}, {b, []api.Box{nil, box(0, 4, 1, 7), nil}, api.ErrBounds}, {b, []api.Box{nil, box(0, 3, 0, 7), nil}, api.ErrBounds}, {b, []api.Box{nil, box(0, 4, 0, 6), nil}, api.ErrBounds}, {b, []api.Box{nil, box(0, 4, 0, 7), box(1, 4)}, api.ErrBounds}, {b, []api.Box{nil, box(0, 4, 0, 7), box(0, 4, 0, 4)}, api.ErrDims}, {b, []api.Box{nil, box(0, 4, 0, 7), box(5, 0)}, api.ErrBounds},
	} {
		if err := bound.CheckInputs(p, nil, x.b, x.given); err != x.want {
			t.Error(i, err)
		}
	}
}
