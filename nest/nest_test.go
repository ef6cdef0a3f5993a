package nest_test

import (
	"fmt"
	"math/rand"
	"slices"
	"testing"

	"halation/api"
	"halation/expr"
	"halation/nest"
	"halation/sched"
)

const madeNests = 4000

func equalExprs(a, b []api.Expr) bool { return slices.EqualFunc(a, b, expr.Same) }

func equalNests(a, b nest.Nest) bool {
	return slices.Equal(a.Loops, b.Loops) && slices.Equal(a.Axes, b.Axes) && equalExprs(a.Offsets, b.Offsets) && equalExprs(a.Guards, b.Guards)
}

func isZero(n nest.Nest) bool {
	return n.Loops == nil && n.Axes == nil && n.Offsets == nil && n.Guards == nil
}

// Promises P9.1 to P9.3.

// TestMade compares with the oracle, also the errors.
func TestMade(t *testing.T) {
	p := pipeline(t)
	seen := map[string]int{}
	for seed := range int64(madeNests) {
		m := maker{rand.New(rand.NewSource(seed))}
		x := m.stage(p)
		s := m.schedule(p, x)
		_, err := sched.CheckFor(p, s)
		if err == api.ErrTwice { // two of the other directives
			continue
		}
		if err != api.OK {
			t.Fatal("what is made is not right", seed, s, err)
		}
		o, at, wantErr := made(p, s, x)
		n, refused, err := nest.Loops(p, s, x)
		if err != wantErr || refused != at {
			t.Fatal("Loops", seed, x, s, refused, err, at, wantErr)
		}
		for _, d := range s[:at] {
			seen[fmt.Sprint("done ", d.Op)]++
		}
		if err != api.OK {
			seen[fmt.Sprint(s[at].Op, " refused ", err)]++
			allFail(t, p, s, x, err)
			if !isZero(n) {
				t.Fatal("a nest beside an error", seed, n)
			}
			continue
		}
		if want := o.nest(); !equalNests(n, want) {
			t.Fatal("Loops", seed, x, s, n, want)
		}
		for i, l := range n.Loops {
			if at, err := nest.Level(p, s, x, l.Name); at != i || err != api.OK {
				t.Fatal("Level", seed, l, at, err)
			}
		}
		if text, err := nest.Print(p, s, x); text != o.print() || err != api.OK {
			t.Fatal("Print", seed, text, err, o.print())
		}
		comparePoints(t, m, p, s, x, o, seen)
	}
	for _, what := range []string{"0 refused 8", "0 refused 26", "0 refused 7", "0 refused 18", "1 refused 8", "1 refused 26", "1 refused 9", "2 refused 8", "3 refused 8", "3 refused 7", "4 refused 8", "4 refused 26", "5 refused 26", "8 refused 26", "limit", "counted", "once", "not once", "nothing"} {
		if seen[what] < 5 {
			t.Error("rare", what, seen)
		}
	}
}

// allFail asks all functions for the error of a schedule that is refused.
func allFail(t *testing.T, p api.Pipeline, s api.Schedule, x nest.Stage, want api.Errno) {
	t.Helper()
	n, at, err0 := nest.Loops(p, s, x)
	reach, err1 := nest.Reach(p, s, x)
	offsets, holds, err2 := nest.Meets(p, s, x, nil)
	points, err3 := nest.Points(p, s, x)
	times, err4 := nest.Times(p, s, x, nil)
	once, err5 := nest.Once(p, s, x)
	level, err6 := nest.Level(p, s, x, "")
	text, err7 := nest.Print(p, s, x)
	for i, err := range []api.Errno{err0, err1, err2, err3, err4, err5, err6, err7} {
		if err != want {
			t.Fatal("function", i, x, s, err, want)
		}
	}
	_, axesErr := nest.Axes(p, x)
	_, schedErr := sched.CheckFor(p, s)
	if (axesErr != api.OK || schedErr != api.OK) && at != 0 {
		t.Fatal("the index of an error before the directives", at)
	}
	if !isZero(n) || len(reach)+len(offsets)+len(points)+times+level+len(text) > 0 || holds || once || at < 0 {
		t.Fatal("results beside an error", n, reach, offsets, points, times, once, level, text)
	}
}

func comparePoints(t *testing.T, m maker, p api.Pipeline, s api.Schedule, x nest.Stage, o *oracle, seen map[string]int) {
	t.Helper()
	reach, err := nest.Reach(p, s, x)
	if !slices.Equal(reach, o.reach()) || err != api.OK {
		t.Fatal("Reach", x, s, reach, err, o.reach())
	}
	compareMeets(t, m, p, s, x, o)
	count := o.combinations()
	points, err := nest.Points(p, s, x)
	offsets := make([]int, len(o.axes))
	if len(points) > 0 {
		copy(offsets, points[m.Intn(len(points))])
	}
	times, err2 := nest.Times(p, s, x, offsets)
	once, err3 := nest.Once(p, s, x)
	if count < 0 {
		seen["limit"]++
		if len(points) > 0 || times != 0 || once || err != api.ErrLimit || err2 != api.ErrLimit || err3 != api.ErrLimit {
			t.Fatal("more than MaxMet", x, s, points, times, once, err, err2, err3)
		}
		return
	}
	seen["counted"]++
	if count == 0 {
		seen["nothing"]++
	}
	want := o.points()
	if !slices.EqualFunc(points, want, slices.Equal) || err != api.OK {
		t.Fatal("Points", x, s, points, err, want)
	}
	wantTimes := 0
	for _, point := range want {
		if slices.Equal(point, offsets) {
			wantTimes++
		}
	}
	if times != wantTimes || err2 != api.OK {
		t.Fatal("Times", x, s, offsets, times, err2, wantTimes)
	}
	if once != o.once(want) || err3 != api.OK {
		t.Fatal("Once", x, s, once, err3)
	}
	seen[map[bool]string{true: "once", false: "not once"}[once]]++
}

// compareMeets meets some values, of which some are not right.
func compareMeets(t *testing.T, m maker, p api.Pipeline, s api.Schedule, x nest.Stage, o *oracle) {
	t.Helper()
	for i := range 3 {
		values := make([]int, len(o.loops))
		wantErr := api.OK
		for j, l := range o.loops {
			if l.Extent > 0 {
				values[j] = []int{m.Intn(l.Extent), l.Extent - 1}[m.Intn(2)]
			}
			if values[j] >= l.Extent {
				wantErr = api.ErrRange
			}
		}
		if i == 1 && len(values) > 0 {
			j := m.Intn(len(values))
			values[j] = m.oneOf(-1, o.loops[j].Extent)
			wantErr = api.ErrRange
		}
		if i == 2 && m.Intn(3) == 0 {
			values = append(values, 0)
			wantErr = api.ErrShape
		}
		offsets, holds, err := nest.Meets(p, s, x, values)
		var want []int
		wantHolds := false
		if wantErr == api.OK {
			want, wantHolds = o.meets(values)
		}
		if !slices.Equal(offsets, want) || holds != wantHolds || err != wantErr {
			t.Fatal("Meets", x, s, values, offsets, holds, err, want, wantHolds, wantErr)
		}
	}
}

// TestMeetsByExpressions computes the offsets and the guards that Loops returns.
func TestMeetsByExpressions(t *testing.T) {
	p := pipeline(t)
	for seed := range int64(300) {
		m := maker{rand.New(rand.NewSource(seed))}
		x := m.stage(p)
		s := m.schedule(p, x)
		n, _, err := nest.Loops(p, s, x)
		if err != api.OK {
			continue
		}
		var values []int
		var l []expr.Binding
		for _, loop := range n.Loops {
			if loop.Extent > 0 {
				v := m.Intn(loop.Extent)
				values = append(values, v)
				l = append(l, expr.Binding{Name: loop.Name, Value: api.Value{Kind: api.I32, Bits: uint64(v)}})
			}
		}
		if len(values) < len(n.Loops) {
			continue
		}
		offsets, holds, err := nest.Meets(p, s, x, values)
		wantHolds := true
		for _, g := range n.Guards {
			v, err := expr.Eval(g, l)
			wantHolds = wantHolds && err == api.OK && v[0].Bits == 1
		}
		if err != api.OK || holds != wantHolds {
			t.Fatal("Meets", seed, values, holds, err)
		}
		for i, e := range n.Offsets {
			if v, err := expr.Eval(e, l); err != api.OK || v[0] != (api.Value{Kind: api.I32, Bits: uint64(offsets[i])}) {
				t.Fatal("the value of an offset", seed, e, v, err, offsets)
			}
		}
	}
}

func box(extents ...int) api.Box {
	var out api.Box
	for i, e := range extents {
		out = append(out, api.Range{Min: 3 * i, Extent: e})
	}
	return out
}

func TestAxes(t *testing.T) {
	p := pipeline(t)
	for i, c := range []struct {
		x    nest.Stage
		want []nest.Axis
		err  api.Errno
	}{
		{nest.Stage{Func: "f", Box: box(10, 4)}, []nest.Axis{{Name: "x", Extent: 10}, {Name: "y", Dim: 1, Extent: 4}}, api.OK},
		{nest.Stage{Func: "f", Number: 1, Box: box(10, 4)}, []nest.Axis{{Name: "x", Extent: 10}, {Name: "r", Dim: -1, Extent: 3}}, api.OK},
		{nest.Stage{Func: "f", Number: 2, Box: box(10, 4)}, []nest.Axis{{Name: "y", Dim: 1, Extent: 4}, {Name: "r", Dim: -1, Extent: 2}, {Name: "s", Dim: -1, Extent: 40}}, api.OK},
		{nest.Stage{Func: "f", Number: 3, Box: box(10, 4)}, nil, api.OK},
		{nest.Stage{Func: "h", Number: 1, Box: box(1, 0, 2)}, []nest.Axis{{Name: "x", Extent: 1}, {Name: "y", Dim: 1}, {Name: "z", Dim: 2, Extent: 2}}, api.OK},
		{nest.Stage{Func: "h", Number: 2, Box: box(1, 0, 2)}, []nest.Axis{{Name: "z", Dim: 2, Extent: 2}, {Name: "r", Dim: -1, Extent: 64}, {Name: "s", Dim: -1, Extent: 64}}, api.OK},
		{nest.Stage{Func: "nobody", Number: -1, Box: nil}, nil, api.ErrUnknown},
		{nest.Stage{Func: "in", Box: box(1)}, nil, api.ErrUnknown},
		{nest.Stage{Func: "", Box: box(1)}, nil, api.ErrUnknown},
		{nest.Stage{Func: "f", Number: -1, Box: box(1)}, nil, api.ErrRange},
		{nest.Stage{Func: "f", Number: 4, Box: box(1)}, nil, api.ErrRange},
		{nest.Stage{Func: "g", Number: 1, Box: nil}, nil, api.ErrRange},
		{nest.Stage{Func: "f", Box: box(65)}, nil, api.ErrDims},
		{nest.Stage{Func: "f", Box: box(1, 1, 1)}, nil, api.ErrDims},
		{nest.Stage{Func: "f", Box: box(1, 65)}, nil, api.ErrRange},
		{nest.Stage{Func: "f", Box: box(1, -1)}, nil, api.ErrRange},
		{nest.Stage{Func: "h", Box: box(64, 64, 2)}, nil, api.ErrMany},
		{nest.Stage{Func: "f", Box: api.Box{{Min: 1 << 30}, {}}}, nil, api.ErrRange},
	} {
		axes, err := nest.Axes(p, c.x)
		if !slices.Equal(axes, c.want) || err != c.err {
			t.Error("Axes", i, axes, err)
		}
		if err != api.OK {
			allFail(t, p, schedule(t, "nobody.0 unroll x\n"), c.x, err)
		}
	}
}

func TestErrorsOfPipelinesAndSchedules(t *testing.T) {
	p := pipeline(t)
	x := nest.Stage{Func: "f", Box: box(10, 4)}
	broken := pipeline(t)
	broken.Funcs[1].Args[0] = "9"
	if _, err := nest.Axes(broken, nest.Stage{}); err != api.ErrName {
		t.Error("Axes of a wrong pipeline", err)
	}
	allFail(t, broken, nil, nest.Stage{}, api.ErrName)
	allFail(t, api.Pipeline{Name: "p"}, nil, nest.Stage{}, api.ErrEmpty)
	for s, want := range map[string]api.Errno{
		"nobody.0 unroll x\n":                                             api.ErrUnknown,
		"f.0 unroll x\nnobody.0 unroll x\n":                               api.ErrUnknown,
		"f.0 unroll q\nout compute_root\n":                                api.ErrKind, // the schedule is asked before its loops
		"f.0 unroll q\ng.1 unroll q\n":                                    api.ErrUnknown,
		"f.0 unroll x\nf compute_at g x\n":                                api.ErrOrder,
		"f.0 split x a b 64 shift\ng.2 vectorize q\n":                     api.ErrUnknown,
		"f.0 split x a b 11 shift\nf.0 vectorize q\n":                     api.ErrTail,
		"f.0 vectorize q\nf.0 split x a b 11 shift\n":                     api.ErrUnknown,
		"f.1 vectorize q\nf.0 split x a b 11 shift\n":                     api.ErrTail,
		"h.0 vectorize q\nf compute_root\ng.0 unroll q\nf.0 fuse y x t\n": api.ErrOrder,
	} {
		allFail(t, p, schedule(t, s), x, want)
	}
	allFail(t, p, api.Schedule{{Func: "f", Op: api.Unroll, Vars: []string{"9"}}}, x, api.ErrName)
	allFail(t, p, make(api.Schedule, api.MaxLines+1), x, api.ErrMany)
}

func TestRefused(t *testing.T) {
	p := pipeline(t)
	for i, c := range []struct {
		number int
		s      string
		at     int
		err    api.Errno
	}{
		{0, "f.0 split q x y 4 exact\n", 0, api.ErrUnknown},
		{0, "f.0 unroll x\nf.0 split x y b 4 exact\n", 1, api.ErrConflict},
		{0, "f.0 split x y b 4 exact\n", 0, api.ErrTwice},
		{0, "f.0 split x a y 4 exact\n", 0, api.ErrTwice},
		{1, "f.1 split x r b 4 round_up\n", 0, api.ErrTwice},
		{1, "f.1 split x a b 4 round_up\n", 0, api.ErrTail},
		{1, "f.1 split x a b 4 shift\n", 0, api.ErrTail},
		{1, "f.1 split x a b 5 round_up\n", 0, api.ErrTail},
		{1, "f.1 split r a b 3 shift\n", 0, api.ErrTail},
		{1, "f.1 split x a b 4 guard\n", 0, api.OK},
		{1, "f.1 split x a b 5 exact\n", 0, api.OK},
		{0, "f.0 split x a b 4 exact\n", 0, api.ErrTail},
		{0, "f.0 split x a b 20 exact\n", 0, api.ErrTail},
		{0, "f.0 split x a b 10 exact\n", 0, api.OK},
		{0, "f.0 split x a b 11 shift\n", 0, api.ErrTail},
		{0, "f.0 split x a b 10 shift\n", 0, api.OK},
		{0, "f.0 split x a b 64 guard\n", 0, api.OK},
		{0, "f.0 split x a b 64 round_up\n", 0, api.OK},
		{0, "f.0 fuse q w t\n", 0, api.ErrUnknown},
		{0, "f.0 unroll x\nf.0 fuse x w t\n", 1, api.ErrUnknown},
		{0, "f.0 unroll x\nf.0 fuse y x t\n", 1, api.ErrConflict},
		{0, "f.0 unroll y\nf.0 fuse x y t\n", 1, api.ErrConflict},
		{0, "f.0 fuse y x t\n", 0, api.ErrOrder},
		{2, "f.2 fuse r y t\n", 0, api.ErrOrder},
		{1, "f.1 reorder x r\nf.1 fuse r x t\n", 1, api.ErrOrder},
		{1, "f.1 fuse r x t\n", 0, api.ErrConflict},
		{1, "f.1 reorder x r\nf.1 fuse x r t\n", 1, api.ErrConflict},
		{2, "f.2 fuse s y r\n", 0, api.ErrConflict},
		{2, "f.2 fuse r s y\n", 0, api.ErrTwice},
		{2, "f.2 fuse r s t\n", 0, api.OK},
		{2, "f.2 split s a b 64 guard\nf.2 split b c d 64 guard\nf.2 fuse d c s\nf.2 fuse s a t\n", 0, api.OK},
		{0, "f.0 reorder x q\n", 0, api.ErrUnknown},
		{0, "f.0 reorder q x\n", 0, api.ErrUnknown},
		{0, "f.0 vectorize x\nf.0 reorder y x\n", 0, api.OK},
		{0, "f.0 rename q y\n", 0, api.ErrUnknown},
		{0, "f.0 rename x y\n", 0, api.ErrTwice},
		{0, "f.0 vectorize x\nf.0 rename x q\nf.0 unroll x\n", 2, api.ErrUnknown},
		{0, "f.0 parallel x\nf.0 rename x q\nf.0 unroll q\n", 2, api.ErrConflict},
		{0, "f.0 blocks x\nf.0 threads x\n", 1, api.ErrConflict},
		{0, "f.0 threads x\nf.0 vectorize x\n", 1, api.ErrConflict},
		{0, "f.0 vectorize q\n", 0, api.ErrUnknown},
		{2, "f.2 vectorize s\n", 0, api.ErrVector},
		{2, "f.2 unroll s\nf.2 vectorize s\n", 1, api.ErrConflict},
		{2, "f.2 unroll s\n", 0, api.OK},
		{0, "f.0 split x a b 33 guard\nf.0 vectorize b\n", 1, api.ErrVector},
		{0, "f.0 split x a b 32 guard\nf.0 vectorize b\n", 0, api.OK},
		{0, "f.1 unroll q\ng.0 unroll q\nf fold x 4\nf.0 unroll q\n", 3, api.ErrUnknown},
	} {
		x := nest.Stage{Func: "f", Number: c.number, Box: box(10, 4)}
		n, at, err := nest.Loops(p, schedule(t, c.s), x)
		if at != c.at || err != c.err || isZero(n) != (err != api.OK) {
			t.Error("Loops", i, c.s, at, err, n)
		}
	}
}

// TestLargeFuse asks for the limit of a fused loop.
func TestLargeFuse(t *testing.T) {
	p := pipeline(t)
	x := nest.Stage{Func: "h", Number: 2, Box: box(1, 1, 2)}
	n, _, err := nest.Loops(p, schedule(t, "h.2 fuse r s t\n"), x)
	if err != api.OK || n.Loops[0].Extent != 4096 {
		t.Error("4096 values", n, err)
	}
	_, at, err := nest.Loops(p, schedule(t, "h.2 split s so si 63 guard\nh.2 fuse r si t\n"), x)
	if err != api.OK {
		t.Error("4032 values", at, err)
	}
	_, at, err = nest.Loops(p, schedule(t, "h.2 split s so si 63 guard\nh.2 fuse r si t\nh.2 fuse t so u\n"), x)
	if at != 2 || err != api.ErrLarge {
		t.Error("8064 values", at, err)
	}
}

// TestManyLoops makes as many loops as there may be.
func TestManyLoops(t *testing.T) {
	p := pipeline(t)
	x := nest.Stage{Func: "g", Box: box(10)}
	var s api.Schedule
	last := "x"
	for i := range 23 {
		inner := fmt.Sprint("i", i)
		s = append(s, api.Directive{Func: "g", Op: api.Split, Vars: []string{last, fmt.Sprint("o", i), inner}, Factor: 1})
		last = inner
	}
	n, at, err := nest.Loops(p, s, x)
	if len(n.Loops) != 24 || at != 0 || err != api.OK {
		t.Error("24 loops", len(n.Loops), at, err)
	}
	points, err := nest.Points(p, s, x)
	if len(points) != 10 || points[9][0] != 9 || err != api.OK {
		t.Error("their points", points, err)
	}
	s = append(s, api.Directive{Func: "g", Op: api.Split, Vars: []string{last, "a", "b"}, Factor: 1})
	allFail(t, p, s, x, api.ErrMany)
	if _, at, _ := nest.Loops(p, s, x); at != 23 {
		t.Error("25 loops", at)
	}
}

// TestManyNodes splits and fuses the same loop: each time its variable comes twice as often.
func TestManyNodes(t *testing.T) {
	p := pipeline(t)
	x := nest.Stage{Func: "g", Box: box(16)}
	text := ""
	for range 6 {
		text += "g.0 split x a b 4 exact\ng.0 fuse b a x\n"
	}
	s := schedule(t, text)
	want := 0
	o := newOracle(p, x)
	for i, d := range s {
		if o.apply(d) != api.OK {
			want = i
			break
		}
	}
	allFail(t, p, s, x, api.ErrMany)
	if _, at, _ := nest.Loops(p, s, x); at != want || want < 6 {
		t.Error("an offset with too many nodes", at, want)
	}
	n, _, err := nest.Loops(p, s[:want], x)
	points, err2 := nest.Points(p, s[:want], x)
	if len(n.Offsets) != 1 || len(n.Offsets[0]) > 256 || err != api.OK || len(points) != 16 || points[7][0] != 7 || err2 != api.OK {
		t.Error("before", n, err, points, err2)
	}
	// A guard has two nodes more than the offset.
	var two api.Schedule
	for i := range 12 {
		two = append(two, api.Directive{Func: "g", Op: api.Split, Vars: []string{"x", fmt.Sprint("o", i), "b"}, Factor: 3, Tail: api.Guard}, api.Directive{Func: "g", Op: api.Fuse, Vars: []string{"b", fmt.Sprint("o", i), "x"}})
	}
	at := 0
	o = newOracle(p, x)
	for i, d := range two {
		if o.apply(d) != api.OK {
			at = i
			break
		}
	}
	_, refused, err := nest.Loops(p, two, x)
	if refused != at || at == 0 || err != api.ErrMany {
		t.Error("a guard with too many nodes", refused, err, at)
	}
}

func TestLevel(t *testing.T) {
	p := pipeline(t)
	x := nest.Stage{Func: "f", Box: box(10, 4)}
	s := schedule(t, "f.0 split x xo xi 4 guard\nf.0 reorder y xi\n")
	for name, want := range map[string]int{"y": 0, "xo": 1, "xi": 2} {
		if at, err := nest.Level(p, s, x, name); at != want || err != api.OK {
			t.Error("Level", name, at, err)
		}
	}
	for _, name := range []string{"x", "", "9", "xx"} {
		if at, err := nest.Level(p, s, x, name); at != 0 || err != api.ErrUnknown {
			t.Error("Level", name, at, err)
		}
	}
}

func TestPrint(t *testing.T) {
	p := pipeline(t)
	for i, c := range []struct {
		x    nest.Stage
		s    string
		want string
	}{
		{nest.Stage{Func: "f", Box: box(10, 4)}, "", "y < 4\n  x < 10\n"},
		{nest.Stage{Func: "f", Box: box(10, 4)}, "f.0 split x xo xi 4 guard\n", "y < 4\n  xo < 3\n    xi < 4\n"},
		{nest.Stage{Func: "f", Box: box(10, 0)}, "f.0 split x xo xi 4 guard\nf.0 unroll xi\nf.0 parallel y\nf.0 vectorize xo\n", "y < 0 tasks\n  xo < 3 vector\n    xi < 4 unrolled\n"},
		{nest.Stage{Func: "h", Box: box(1, 2, 3)}, "h.0 blocks z\nh.0 threads y\n", "z < 3 grid\n  y < 2 lane\n    x < 1\n"},
		{nest.Stage{Func: "f", Number: 2, Box: box(10, 4)}, "", "y < 4\n  s < 40\n    r < 2\n"},
		{nest.Stage{Func: "f", Number: 3, Box: box(10, 4)}, "", ""},
	} {
		if text, err := nest.Print(p, schedule(t, c.s), c.x); text != c.want || err != api.OK {
			t.Error("Print", i, text, err)
		}
	}
}

func TestNothingIsShared(t *testing.T) {
	p := pipeline(t)
	x := nest.Stage{Func: "f", Box: box(10, 4)}
	s := schedule(t, "f.0 split x xo xi 4 guard\nf.0 split y yo yi 3 guard\nf.0 reorder yi xi\nf.0 rename yo q\n")
	kept := fmt.Sprint(p, s, x)
	want, _, _ := nest.Loops(p, s, x)
	for range 2 {
		n, _, _ := nest.Loops(p, s, x)
		if !equalNests(n, want) {
			t.Fatal("Loops", n, want)
		}
		for _, e := range slices.Concat(n.Offsets, n.Guards) {
			for i := range e {
				e[i].Name = "spoilt"
				clear(e[i].Kids)
			}
		}
		clear(n.Loops)
		clear(n.Axes)
	}
	n, _, _ := nest.Loops(p, s, x)
	clear(n.Guards[0][0].Kids)
	n.Guards[0][0].Name = "spoilt"
	if !equalExprs(n.Offsets, want.Offsets) || !expr.Same(n.Guards[1], want.Guards[1]) {
		t.Error("a guard shares memory with an offset")
	}
	if fmt.Sprint(p, s, x) != kept {
		t.Error("an argument was changed")
	}
}
