package window_test

import (
	"math"
	"slices"
	"strconv"
	"strings"
	"testing"

	"halation/affine"
	"halation/api"
	"halation/bound"
	"halation/expr"
	"halation/front"
	"halation/lang"
	"halation/sched"
	"halation/window"
)

// pipeline returns the pipeline of the lines between its first and its last one.
func pipeline(t testing.TB, lines string) api.Pipeline {
	t.Helper()
	p, line, column, err := front.Parse("pipeline p\n" + lines + "\nend\n")
	if err != api.OK {
		t.Fatal("Parse", lines, line, column, err)
	}
	return p
}

func schedule(t testing.TB, s string) api.Schedule {
	t.Helper()
	if s != "" {
		s = strings.ReplaceAll(s, "; ", "\n") + "\n"
	}
	out, line, err := sched.Parse(s)
	if err != api.OK {
		t.Fatal("Parse", s, line, err)
	}
	return out
}

// box returns the box of pairs of a Min and an Extent.
func box(l ...int) api.Box {
	var out api.Box
	for i := 0; i < len(l); i += 2 {
		out = append(out, api.Range{Min: l[i], Extent: l[i+1]})
	}
	return out
}

// shown returns a text of a storage that is easily read.
func shown(x window.Storage) string {
	out := strconv.Itoa(x.Elements)
	for _, l := range x.Site {
		out += " " + l.Func + "." + l.Name
	}
	for _, d := range x.Dims {
		out += " (" + text(d.Min) + ", " + strconv.Itoa(d.Extent) + ", " + strconv.Itoa(d.Fold) + ")"
	}
	return out
}

const (
	stencil = `input in u8 1
func f(x) i32 = i32(in[x]) + i32(in[x + 1])
func out(x) i32 = f(x - 1) + f(x + 1)`
	inXo = "f compute_at out xo; out.0 split x xo xi 2 exact"
	// plane has a function that is needed in three rows, and another one for it
	plane = `func e(x, y) i32 = x * y
func f(x, y) i32 = e(x, y) + e(x + 1, y)
func out(x, y) i32 = f(x, y - 1) + f(x, y) + f(x, y + 1)`
	// skew moves along both dimensions
	skew = `func f(x, y) i32 = x
func out(x, y) i32 = f(x + y, y) + f(x + y + 1, y)`
)

// Promises P16.1 to P16.3.

func TestStored(t *testing.T) {
	for i, x := range []struct {
		p, s string
		b    api.Box
		f    string
		want string // nothing, if there is an error
		err  api.Errno
	}{
		{stencil, inXo + "; f store_root", box(0, 16), "f", "18 (-1, 18, 0)", api.OK},
		{stencil, inXo + "; f store_root; f fold x 4", box(0, 16), "f", "4 (-1, 18, 4)", api.OK},
		{stencil, inXo, box(0, 16), "f", "4 out.xo (s0 * 2 + -1, 4, 0)", api.OK}, {stencil, inXo + "; f store_at out xo", box(0, 16), "f", "4 out.xo (s0 * 2 + -1, 4, 0)", api.OK}, {stencil, inXo, box(0, 16), "out", "16 (0, 16, 0)", api.OK},
		{stencil, inXo + "; f fold x 3", box(0, 16), "f", "3 out.xo (s0 * 2 + -1, 4, 3)", api.OK}, // whether that is enough is not asked
		{stencil, inXo + "; f store_at out xi", box(0, 16), "f", "", api.ErrLevel}, {stencil, "f compute_root; f store_at out x", box(0, 16), "f", "", api.ErrLevel}, {stencil, "f compute_at out x; f store_at out q", box(0, 16), "f", "", api.ErrLevel},
		{stencil, inXo, box(0, 16), "g", "", api.ErrUnknown}, {stencil, inXo, box(0, 16), "", "", api.ErrUnknown}, {stencil, inXo, box(0, 16), "in", "", api.ErrUnknown}, {stencil, "", box(0, 16), "f", "", api.ErrUnknown}, {stencil, "f store_at out x", box(0, 16), "f", "", api.ErrUnknown}, {stencil, inXo + "; f store_at out q", box(0, 15), "h", "", api.ErrTail}, {stencil, inXo + "; f store_at out q", box(0, 16), "h", "", api.ErrUnknown},
		// loops between that are two, of which one is of another function, and whose terms are negative
		{plane, "f compute_at out x; e compute_at f x; e store_at out y", box(0, 8, 0, 4), "e", "27 out.y (0, 9, 0) (s0 + -1, 3, 0)", api.OK},
		{plane, "f compute_at out x; e compute_at f x; e store_root", box(0, 8, 0, 4), "e", "54 (0, 9, 0) (-1, 6, 0)", api.OK},
		{plane, "f compute_at out y; e compute_at f y; e store_at out y", box(0, 8, 0, 4), "e", "27 out.y (0, 9, 0) (s0 + -1, 3, 0)", api.OK},
		{plane, "f compute_at out y; e compute_at f y; e store_at f y; e fold x 2; e fold y 7", box(0, 8, 0, 4), "e", "14 out.y f.y (0, 9, 2) (s0 + s1 + -1, 1, 7)", api.OK},
		{"func f(x) i32 = x\nfunc out(x) i32 = f(1 - 3 * x)", "f compute_at out x; f store_root", box(2, 5), "f", "13 (-17, 13, 0)", api.OK},
		{"func f(x) i32 = x\nfunc out(x, y) i32 = f(5 * y - 3 * x)", "f compute_at out x; f store_at out y", box(0, 3, 0, 2), "f", "7 out.y (s0 * 5 + -6, 7, 0)", api.OK},
		{"func f(x) i32 = x\nfunc out(x, y) i32 = f(5 * y - 3 * x)", "f compute_at out x; f store_root", box(0, 3, 0, 2), "f", "12 (-6, 12, 0)", api.OK},
		// loops of the same name: the first one counts
		{"func f(x) i32 = x\nfunc g(x) i32 = f(x)\nfunc out(x) i32 = g(x) + g(x + 1)", "g compute_at out x; f compute_at g x; f store_at g x", box(0, 4), "f", "1 out.x g.x (s0 + s1, 1, 0)", api.OK},
		{"func f(x) i32 = x\nfunc g(x) i32 = f(x)\nfunc out(x) i32 = g(x) + g(x + 1)", "g compute_at out x; f compute_at g x; f store_at out x", box(0, 4), "f", "2 out.x (s0, 2, 0)", api.OK},
		// as far as loops without iterations go, too
		{"func f(x) i32 = x\nfunc out(x) i32 = f(3 * x + 1)", "f compute_at out x; f store_root", box(2, 0), "f", "4 (4, 4, 0)", api.OK}, {"func f(x) i32 = x\nfunc out(x) i32 = f(1 - 3 * x)", "f compute_at out x; f store_root", box(2, 0), "f", "4 (-5, 4, 0)", api.OK}, {"func out(x) i32 = x", "", box(2, 0), "out", "0 (2, 0, 0)", api.OK},
		// too large: an extent, or all of them
		{"func f(x) i32 = x\nfunc out(x) i32 = f(65 * x)", "f compute_at out x; f store_root", box(0, 64), "f", "4096 (0, 4096, 0)", api.OK}, {"func f(x) i32 = x\nfunc out(x) i32 = f(65 * x) + f(65 * x + 1)", "f compute_at out x; f store_root", box(0, 64), "f", "", api.ErrLarge}, {"func f(x) i32 = x\nfunc out(x) i32 = f(65 * x) + f(65 * x + 1)", "f compute_at out x; f store_root; f fold x 2", box(0, 64), "f", "", api.ErrLarge},
		{"func f(x, y) i32 = x\nfunc out(x, y) i32 = f(65 * x, y)", "f compute_at out x; f store_root", box(0, 32, 0, 2), "f", "4032 (0, 2016, 0) (0, 2, 0)", api.OK}, {"func f(x, y) i32 = x\nfunc out(x, y) i32 = f(65 * x, y)", "f compute_at out x; f store_root", box(0, 34, 0, 2), "f", "", api.ErrLarge}, {"func f(x, y) i32 = x\nfunc out(x, y) i32 = f(65 * x, y)", "f compute_at out x; f store_root; f fold y 1", box(0, 34, 0, 2), "f", "2146 (0, 2146, 0) (0, 2, 1)", api.OK},
		{"func f(x, y) i32 = x\nfunc out(x, y) i32 = f(64 * x, y)", "f compute_at out x; f store_root; f fold x 64", box(0, 64, 0, 64), "f", "4096 (0, 4033, 64) (0, 64, 0)", api.OK},
	} {
		got, err := window.Stored(pipeline(t, x.p), schedule(t, x.s), x.b, x.f)
		if err != x.err || err == api.OK && (shown(got) != x.want || got.Func != x.f) || err != api.OK && (got.Elements != 0 || got.Func != "" || len(got.Dims) > 0) {
			t.Error(i, shown(got), err)
		}
	}
}

func TestBetween(t *testing.T) {
	p, b := pipeline(t, plane), box(0, 8, 0, 4)
	for s, want := range map[string]string{
		"f compute_at out x; e compute_at f x; e store_root; out.0 unroll x; f.0 vectorize y": "|y0 x1 y2 x0",
		"f compute_at out x; e compute_at f x; e store_at out y; out.0 parallel y":            "y|x0 y0 x0",
		"f compute_at out x; e compute_at f x; out.0 blocks y; out.0 threads x":               "y x y x|",
		"f compute_at out x; e compute_at f y; e store_at f y; out.0 parallel x":              "y x y|",
		"f compute_at out x; e compute_at f y; e store_at out x; f.0 parallel y":              "y x|y3",
		"f compute_root; e compute_root":                                                      "|",
		"f compute_root; e compute_at f x; e store_root; f.0 blocks y; f.0 threads x":         "|y4 x5",
	} {
		site, err := window.StoreSite(p, schedule(t, s), b, "e")
		l, err2 := window.Between(p, schedule(t, s), b, "e")
		var a, c []string
		for _, x := range site {
			a = append(a, x.Name)
		}
		for _, x := range l {
			c = append(c, x.Loop.Name+strconv.Itoa(x.Kind))
		}
		if got := strings.Join(a, " ") + "|" + strings.Join(c, " "); got != want || err != api.OK || err2 != api.OK {
			t.Error(s, got, err, err2)
		}
	}
}

func TestSliding(t *testing.T) {
	for i, x := range []struct {
		p, s   string
		b      api.Box
		f      string
		want   window.Slide
		slides bool
	}{
		{stencil, inXo + "; f store_root", box(0, 16), "f", window.Slide{Step: 2}, true}, {stencil, inXo, box(0, 16), "f", window.Slide{}, false}, {stencil, inXo + "; f store_root", box(0, 16), "out", window.Slide{}, false}, {stencil, "f compute_root", box(0, 16), "f", window.Slide{}, false},
		{stencil, inXo + "; f store_root; out.0 unroll xo", box(0, 16), "f", window.Slide{}, false}, {stencil, inXo + "; f store_root; out.0 parallel xo", box(0, 16), "f", window.Slide{}, false}, {stencil, inXo + "; f store_root; out.0 vectorize xi", box(0, 16), "f", window.Slide{Step: 2}, true},
		{stencil, inXo + "; f store_root; f.0 split x xo xi 4 exact", box(0, 16), "f", window.Slide{Step: 2}, true}, {stencil, inXo + "; f store_root; f.0 split x xo xi 3 guard", box(0, 16), "f", window.Slide{Step: 2}, true}, {stencil, inXo + "; f store_root; f.0 split x xo xi 3 round_up", box(0, 16), "f", window.Slide{}, false},
		{strings.ReplaceAll(stencil, "func out", "set x = f(x) + 1\nfunc out"), inXo + "; f store_root", box(0, 16), "f", window.Slide{}, false},
		// the step is less than the extent, and above 0
		{"func f(x) i32 = x\nfunc out(x) i32 = f(x * 3) + f(x * 3 + 2)", "f compute_at out x; f store_root", box(0, 4), "f", window.Slide{}, false}, {"func f(x) i32 = x\nfunc out(x) i32 = f(x * 3) + f(x * 3 + 3)", "f compute_at out x; f store_root", box(0, 4), "f", window.Slide{Step: 3}, true}, {"func f(x) i32 = x\nfunc out(x) i32 = f(0 - x) + f(3 - x)", "f compute_at out x; f store_root", box(0, 4), "f", window.Slide{}, false},
		// the last loop of the site, and just one dimension
		{plane, "f compute_at out y; f store_root", box(0, 8, 0, 4), "f", window.Slide{Dim: 1, Step: 1}, true}, {plane, "f compute_at out x; f store_root", box(0, 8, 0, 4), "f", window.Slide{}, false}, {plane, "f compute_at out y; f store_root; out.0 reorder y x", box(0, 8, 0, 4), "f", window.Slide{Loop: 1, Dim: 1, Step: 1}, true}, {plane, "f compute_at out y; f store_at out x; out.0 reorder y x", box(0, 8, 0, 4), "f", window.Slide{Loop: 1, Dim: 1, Step: 1}, true}, {plane, "f compute_at out y; f store_at out y; out.0 reorder y x", box(0, 8, 0, 4), "f", window.Slide{}, false},
		{plane, "f compute_at out y; e compute_at f x; e store_root", box(0, 8, 0, 4), "e", window.Slide{Loop: 2, Step: 1}, true},
		{skew, "f compute_at out x; f store_root", box(0, 4, 0, 4), "f", window.Slide{Loop: 1, Step: 1}, true}, {skew, "f compute_at out y; f store_root; out.0 reorder y x", box(0, 4, 0, 4), "f", window.Slide{}, false},
		{"func f(x, y) i32 = x\nfunc out(x) i32 = f(x, x) + f(x + 1, x + 1)", "f compute_at out x; f store_root", box(0, 4), "f", window.Slide{}, false},
		{"func f(x, y) i32 = x\nfunc out(x) i32 = f(x, 0) + f(x + 1, 1)", "f compute_at out x; f store_root; f.0 split y yo yi 3 round_up", box(0, 4), "f", window.Slide{}, false},
	} {
		got, slides, err := window.Sliding(pipeline(t, x.p), schedule(t, x.s), x.b, x.f)
		if got != x.want || slides != x.slides || err != api.OK {
			t.Error(i, x.s, got, slides, err)
		}
	}
}

func TestFresh(t *testing.T) {
	p, s, b := pipeline(t, stencil), schedule(t, inXo+"; f store_root"), box(0, 16)
	for i, x := range []struct {
		f      string
		values []int
		want   api.Box
		err    api.Errno
	}{{"f", []int{0}, box(-1, 4), api.OK}, {"f", []int{1}, box(3, 2), api.OK}, {"f", []int{3}, box(7, 2), api.OK}, {"f", []int{7}, box(15, 2), api.OK}, {"f", []int{8}, nil, api.ErrRange}, {"f", []int{-1}, nil, api.ErrRange}, {"f", nil, nil, api.ErrShape}, {"out", nil, b, api.OK}, {"out", []int{0}, nil, api.ErrShape}, {"g", nil, nil, api.ErrUnknown}} {
		if got, err := window.Fresh(p, s, b, x.f, x.values); !slices.Equal(got, x.want) || err != x.err {
			t.Error(i, got, err)
		}
	}
	some, all, err := window.Saved(p, s, b, "f")
	if some != 18 || all != 32 || err != api.OK {
		t.Error("Saved", some, all, err)
	}
	some, all, err = window.Saved(p, s, b, "out")
	if some != 16 || all != 16 || err != api.OK {
		t.Error("Saved of the last one", some, all, err)
	}
	some, all, err = window.Saved(p, schedule(t, "f compute_at out x; f store_root"), box(3, 0), "f")
	if some != 0 || all != 0 || err != api.OK {
		t.Error("Saved without iterations", some, all, err)
	}
	many := pipeline(t, "func f(x) i32 = x\nfunc out(x, y, z) i32 = f(x)")
	for s, want := range map[string]api.Errno{"out.0 split y yo yi 1 guard": api.OK, "out.0 split y yo yi 3 guard": api.ErrLimit, "out.0 split y yo yi 64 guard; out.0 split x xo xi 64 guard; out.0 split z zo zi 64 guard": api.ErrLimit} {
		s := schedule(t, "f compute_at out "+map[bool]string{true: "xi", false: "x"}[strings.Contains(s, "xi")]+"; f store_root; "+s)
		some, all, err := window.Saved(many, s, box(0, 16, 0, 16, 0, 16), "f")
		_, is, err2 := window.Overwrites(many, s, box(0, 16, 0, 16, 0, 16), "f", "x", 1)
		if err != want || err2 != want || is || (some+all > 0) != (want == api.OK) {
			t.Error("Saved of many", s, some, all, err, is, err2)
		}
	}
}

func TestFolds(t *testing.T) {
	base := "f compute_at out x; f store_root; "
	for i, x := range []struct {
		p, s   string
		b      api.Box
		f, arg string
		factor int
		least  int
		values []int
		err    api.Errno
		err2   api.Errno
	}{
		{stencil, inXo + "; f store_root", box(0, 16), "f", "x", 3, 4, []int{0}, api.OK, api.OK}, {stencil, inXo + "; f store_root", box(0, 16), "f", "x", 4, 4, nil, api.OK, api.OK}, {stencil, inXo + "; f store_root", box(0, 16), "f", "x", 64, 4, nil, api.OK, api.OK}, {stencil, inXo + "; f store_root", box(0, 16), "f", "x", 65, 4, nil, api.OK, api.ErrRange}, {stencil, inXo + "; f store_root", box(0, 16), "f", "x", 0, 4, nil, api.OK, api.ErrRange}, {stencil, inXo + "; f store_root", box(0, 16), "f", "x", math.MinInt, 4, nil, api.OK, api.ErrRange},
		{stencil, inXo, box(0, 16), "f", "x", 0, 0, nil, api.ErrState, api.ErrState}, {stencil, inXo, box(0, 16), "f", "y", 0, 0, nil, api.ErrUnknown, api.ErrUnknown}, {stencil, inXo, box(0, 16), "out", "y", 0, 0, nil, api.ErrUnknown, api.ErrUnknown}, {stencil, inXo, box(0, 16), "out", "x", 0, 0, nil, api.ErrKind, api.ErrKind}, {stencil, inXo + "; f store_root; out.0 parallel xo", box(0, 16), "f", "x", 0, 0, nil, api.ErrRace, api.ErrRace}, {stencil, inXo + "; f store_root; out.0 unroll xo", box(0, 16), "f", "x", 0, 0, nil, api.ErrRace, api.ErrRace}, {stencil, "f compute_root", box(0, 16), "f", "x", 0, 0, nil, api.ErrState, api.ErrState}, {stencil, inXo + "; f store_at out q", box(0, 16), "f", "y", 0, 0, nil, api.ErrLevel, api.ErrLevel}, {stencil, inXo + "; f store_at out q", box(0, 16), "g", "y", 0, 0, nil, api.ErrUnknown, api.ErrUnknown},
		{plane, "f compute_at out y; f store_at out x; out.0 reorder y x; out.0 parallel x", box(0, 8, 0, 4), "f", "y", 2, 3, []int{0, 0}, api.OK, api.OK}, {plane, "f compute_at out y; f store_root; out.0 reorder y x; out.0 parallel x", box(0, 8, 0, 4), "f", "y", 2, 0, nil, api.ErrRace, api.ErrRace},
		{"func f(x) i32 = x\nfunc out(x) i32 = f(65 * x) + f(65 * x + 1)", base + "out.0 parallel x", box(0, 64), "f", "x", 0, 0, nil, api.ErrRace, api.ErrRace}, {"func f(x) i32 = x\nfunc out(x) i32 = f(65 * x) + f(65 * x + 1)", base + "f memoize", box(0, 64), "f", "x", 0, 0, nil, api.ErrLarge, api.ErrLarge},
		// a dimension along which nothing slides
		{plane, "f compute_at out y; f store_root", box(0, 8, 0, 4), "f", "x", 7, 8, []int{0}, api.OK, api.OK}, {plane, "f compute_at out y; f store_root", box(0, 8, 0, 4), "f", "x", 8, 8, nil, api.OK, api.OK},
		// what is stored anew for each value of a loop outside
		{plane, "f compute_at out y; f store_at out xo; out.0 split x xo xi 2 exact; out.0 reorder xi y xo", box(3, 8, 0, 4), "f", "x", 2, 2, nil, api.OK, api.OK}, {plane, "f compute_at out y; f store_at out xo; out.0 split x xo xi 2 exact; out.0 reorder xi y xo", box(3, 8, 0, 4), "f", "x", 1, 2, []int{0, 0}, api.OK, api.OK}, {plane, "f compute_at out y; f store_at out xo; out.0 split x xo xi 2 exact; out.0 reorder xi y xo", box(3, 8, 0, 4), "f", "y", 2, 3, []int{0, 0}, api.OK, api.OK},
		// gaps between what is computed
		{"func f(x) i32 = x\nfunc out(x) i32 = f(3 * x)", base + "f fold x 1", box(0, 4), "f", "x", 1, 1, nil, api.OK, api.OK},
		{"func f(x) i32 = x\nfunc out(x) i32 = f(x)", base + "f fold x 1", box(0, 0), "f", "x", 1, 1, nil, api.OK, api.OK},
	} {
		p, s := pipeline(t, x.p), schedule(t, x.s)
		n, err := window.LeastFold(p, s, x.b, x.f, x.arg)
		l, is, err2 := window.Overwrites(p, s, x.b, x.f, x.arg, x.factor)
		if n != x.least || err != x.err || !slices.Equal(l, x.values) || is != (len(x.values) > 0) || err2 != x.err2 {
			t.Error(i, n, err, l, is, err2)
		}
	}
}

// form returns that of a text.
func form(t testing.TB, s string) affine.Form {
	t.Helper()
	e, at, err := lang.Parse(s, nil)
	if err != api.OK {
		t.Fatal("Parse", s, at, err)
	}
	f, err := affine.Of(e)
	if err != api.OK {
		t.Fatal("Of", s, err)
	}
	return f
}

func TestIndex(t *testing.T) {
	loops := func(extents ...int) []bound.Loop {
		var out []bound.Loop
		for _, n := range extents {
			out = append(out, bound.Loop{Extent: n})
		}
		return out
	}
	dims := func(l ...window.Dim) []window.Dim { return l }
	dim := func(s string, extent, fold int) window.Dim {
		return window.Dim{Min: form(t, s), Extent: extent, Fold: fold}
	}
	good := dim("0", 1, 0)
	wrong := window.Dim{Min: affine.Form{Const: 1 << 40}}
	three := window.Storage{Site: loops(3), Dims: dims(dim("s0 * 2 - 1", 5, 0), dim("10", 9, 4), dim("s0", 6, 2))}
	hundred := window.Storage{Site: loops(slices.Repeat([]int{2}, 100)...), Dims: dims(dim("s0 + s10 + s99", 4, 0))}
	for i, x := range []struct {
		x             window.Storage
		values, point []int
		want          int
		err           api.Errno
	}{
		{three, []int{0}, []int{-1, 10, 0}, 0, api.OK}, {three, []int{1}, []int{3, 15, 4}, 27, api.OK}, {three, []int{2}, []int{7, 18, 7}, 24, api.OK}, {three, []int{2}, []int{7, 17, 7}, 4 + 3*5 + 1*20, api.OK},
		{hundred, slices.Repeat([]int{1}, 100), []int{5}, 2, api.OK},
		{window.Storage{Site: make([]bound.Loop, 101)}, nil, nil, 0, api.ErrMany}, {window.Storage{Dims: dims(good, good, good, good)}, []int{1}, nil, 0, api.ErrMany},
		{three, nil, nil, 0, api.ErrShape}, {three, []int{3, 3}, nil, 0, api.ErrShape}, {three, []int{3}, nil, 0, api.ErrRange}, {three, []int{-1}, nil, 0, api.ErrRange}, {three, []int{0}, nil, 0, api.ErrDims}, {three, []int{0}, []int{0, 10, 0, 0}, 0, api.ErrDims},
		{window.Storage{Site: loops(math.MaxInt)}, []int{api.MaxCoord}, nil, 0, api.OK}, {window.Storage{Site: loops(math.MaxInt)}, []int{api.MaxCoord + 1}, nil, 0, api.ErrRange}, {window.Storage{Site: loops(-1)}, []int{0}, nil, 0, api.ErrRange},
		{window.Storage{Dims: dims(wrong)}, nil, nil, 0, api.ErrDims}, {window.Storage{Dims: dims(wrong)}, nil, []int{0}, 0, api.ErrRange}, {window.Storage{Dims: dims(dim("s0", 0, 0))}, nil, []int{0}, 0, api.ErrUnknown}, {window.Storage{Site: loops(1), Dims: dims(dim("s1", 0, 0))}, []int{0}, []int{0}, 0, api.ErrUnknown}, {window.Storage{Site: loops(1), Dims: dims(dim("x", 0, 0))}, []int{0}, []int{0}, 0, api.ErrUnknown},
		{window.Storage{Dims: dims(dim("1048577", 0, -1))}, nil, []int{0}, 0, api.ErrRange}, {window.Storage{Dims: dims(dim("1048577", 4097, 0))}, nil, []int{0}, 0, api.ErrRange}, {window.Storage{Dims: dims(dim("1048577", 4096, 65))}, nil, []int{0}, 0, api.ErrRange}, {window.Storage{Dims: dims(dim("1048577", 4096, -1))}, nil, []int{0}, 0, api.ErrRange}, {window.Storage{Dims: dims(dim("1048577", 4096, 64))}, nil, []int{0}, 0, api.ErrLarge}, {window.Storage{Dims: dims(dim("-1048577", 4096, 0))}, nil, []int{0}, 0, api.ErrLarge}, {window.Storage{Dims: dims(dim("1048576", 4096, 0))}, nil, []int{1048576 + 4095}, 4095, api.OK}, {window.Storage{Dims: dims(dim("-1048576", 4096, 0))}, nil, []int{-1048576}, 0, api.OK},
		{window.Storage{Dims: dims(dim("3", 4, 0))}, nil, []int{2}, 0, api.ErrBounds}, {window.Storage{Dims: dims(dim("3", 4, 0))}, nil, []int{7}, 0, api.ErrBounds}, {window.Storage{Dims: dims(dim("3", 4, 2))}, nil, []int{7}, 0, api.ErrBounds}, {window.Storage{Dims: dims(dim("3", 4, 0))}, nil, []int{math.MaxInt}, 0, api.ErrBounds}, {window.Storage{Dims: dims(dim("3", 4, 0))}, nil, []int{math.MinInt}, 0, api.ErrBounds},
		{window.Storage{Dims: dims(dim("3", 4, 0), wrong)}, nil, []int{2, 0}, 0, api.ErrBounds}, {window.Storage{Dims: dims(dim("3", 4, 0), wrong)}, nil, []int{3, 0}, 0, api.ErrRange},
		{window.Storage{Dims: dims(dim("0", 64, 0), dim("0", 64, 0))}, nil, []int{63, 63}, 4095, api.OK}, {window.Storage{Dims: dims(dim("0", 64, 0), dim("0", 65, 0))}, nil, []int{0, 0}, 0, api.ErrLarge}, {window.Storage{Dims: dims(dim("0", 64, 0), dim("0", 65, 64))}, nil, []int{63, 64}, 63, api.OK}, {window.Storage{Dims: dims(dim("0", 4096, 0), dim("0", 4096, 0), dim("0", 4096, 0))}, nil, []int{0, 0, 0}, 0, api.ErrLarge},
		{window.Storage{}, nil, nil, 0, api.OK},
		// values of forms are numbers of I32
		{window.Storage{Site: loops(9), Dims: dims(dim("s0 * 2147483647 + 5", 4, 0))}, []int{2}, []int{4}, 1, api.OK},
	} {
		if n, err := window.Index(x.x, x.values, x.point); n != x.want || err != x.err {
			t.Error(i, n, err)
		}
	}
}

func TestAddress(t *testing.T) {
	e := func(s string) api.Expr {
		out, at, err := lang.Parse(s, nil)
		if err != api.OK {
			t.Fatal(s, at, err)
		}
		return out
	}
	long := func(n int) api.Expr { return e("x" + strings.Repeat(" + x", n)) } // 2 n + 1 nodes
	exprs := func(l ...api.Expr) []api.Expr { return l }
	dims := func(l ...window.Dim) []window.Dim { return l }
	dim := func(s string, extent, fold int) window.Dim {
		return window.Dim{Min: form(t, s), Extent: extent, Fold: fold}
	}
	good := dim("0", 1, 0)
	wrong := window.Dim{Min: affine.Form{Const: 1 << 40}}
	deep := window.Dim{Min: affine.Form{Terms: []affine.Term{{Coeff: 2, Atom: e("x" + strings.Repeat(" / x", 127))}}, Const: 1}, Extent: 1} // 255 nodes, and 4 more
	for i, x := range []struct {
		x     window.Storage
		point []api.Expr
		want  string
		err   api.Errno
	}{
		{window.Storage{Dims: dims(dim("-1", 18, 0))}, exprs(e("e")), "e - -1", api.OK}, {window.Storage{Dims: dims(dim("-1", 18, 4))}, exprs(e("e")), "(e - -1) % 4", api.OK},
		{window.Storage{Dims: dims(dim("s0 * 2 - 1", 5, 0), dim("10", 9, 4), dim("s0", 6, 2))}, exprs(e("x"), e("y + 1"), e("f.i32(z)")), "x - (s0 * 2 + -1) + (y + 1 - 10) % 4 * 5 + (f.i32(z) - s0) % 2 * 20", api.OK},
		{window.Storage{Dims: dims(dim("0", 1, 1), dim("0", 1, 0))}, exprs(e("x"), e("y")), "(x - 0) % 1 + (y - 0) * 1", api.OK},
		{window.Storage{Dims: dims(dim("y / 2", 5, 0))}, exprs(e("x")), "x - y / 2", api.OK}, // any atoms
		{window.Storage{Site: make([]bound.Loop, 101)}, nil, "", api.ErrMany}, {window.Storage{Dims: dims(wrong, good, good, good)}, nil, "", api.ErrMany}, {window.Storage{Dims: dims(wrong)}, nil, "", api.ErrDims}, {window.Storage{}, exprs(nil), "", api.ErrDims}, {window.Storage{}, nil, "", api.ErrEmpty},
		{window.Storage{Dims: dims(wrong)}, exprs(nil), "", api.ErrRange}, {window.Storage{Dims: dims(window.Dim{Min: affine.Form{Terms: []affine.Term{{}}}})}, exprs(nil), "", api.ErrForm}, {window.Storage{Dims: dims(dim("0", 0, 0))}, exprs(nil), "", api.ErrRange}, {window.Storage{Dims: dims(dim("0", 4097, 0))}, exprs(nil), "", api.ErrRange}, {window.Storage{Dims: dims(dim("0", 1, 65))}, exprs(nil), "", api.ErrRange}, {window.Storage{Dims: dims(dim("0", 1, -1))}, exprs(nil), "", api.ErrRange}, {window.Storage{Dims: dims(dim("0", 1, 64))}, exprs(nil), "", api.ErrEmpty},
		{window.Storage{Dims: dims(good)}, exprs(e("1u8")), "", api.ErrType}, {window.Storage{Dims: dims(good)}, exprs(e("ramp(x, 1, 4)")), "", api.ErrType}, {window.Storage{Dims: dims(good)}, exprs(e("x < 1")), "", api.ErrType}, {window.Storage{Dims: dims(good, wrong)}, exprs(e("1u8"), nil), "", api.ErrType}, {window.Storage{Dims: dims(wrong, good)}, exprs(e("x"), e("1u8")), "", api.ErrRange},
		{window.Storage{Dims: dims(dim("0", 64, 0), dim("0", 65, 0))}, exprs(e("x"), e("1u8")), "", api.ErrType}, {window.Storage{Dims: dims(dim("0", 64, 0), dim("0", 65, 0))}, exprs(e("x"), e("y")), "", api.ErrLarge}, {window.Storage{Dims: dims(dim("0", 64, 0), dim("0", 65, 1))}, exprs(e("x"), e("y")), "x - 0 + (y - 0) % 1 * 64", api.OK},
		{window.Storage{Dims: dims(deep, dim("0", 64, 0), dim("0", 65, 0))}, exprs(e("x"), e("y"), e("z")), "", api.ErrLarge}, {window.Storage{Dims: dims(deep)}, exprs(e("x")), "", api.ErrMany},
		{window.Storage{Dims: dims(good)}, exprs(long(126)), "x" + strings.Repeat(" + x", 126) + " - 0", api.OK}, {window.Storage{Dims: dims(good)}, exprs(long(127)), "", api.ErrMany}, {window.Storage{Dims: dims(good, good)}, exprs(long(124), e("x")), "", api.ErrMany}, {window.Storage{Dims: dims(good, good)}, exprs(long(123), e("x")), "x" + strings.Repeat(" + x", 123) + " - 0 + (x - 0) * 1", api.OK},
	} {
		got, err := window.Address(x.x, x.point)
		text := ""
		if err == api.OK {
			text, _ = lang.Print(got, nil)
		}
		if text != x.want || err != x.err || err != api.OK && len(got) > 0 || err == api.OK && expr.Check(got) != api.OK {
			t.Error(i, text, err)
		}
	}
}
