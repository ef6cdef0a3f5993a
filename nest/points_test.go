package nest_test

import (
	"fmt"
	"math"
	"math/rand"
	"slices"
	"sort"
	"testing"

	"halation/api"
	"halation/nest"
	"halation/sched"
)

// Promise P9.2.

func TestPointsByHand(t *testing.T) {
	p := pipeline(t)
	f := func(number int, extents ...int) nest.Stage {
		return nest.Stage{Func: "f", Number: number, Box: box(extents...)}
	}
	for i, c := range []struct {
		x     nest.Stage
		s     string
		count int
		some  map[int][]int
		reach []int
		once  bool
	}{
		{f(0, 10, 4), "", 40, map[int][]int{0: {0, 0}, 1: {1, 0}, 39: {9, 3}}, []int{10, 4}, true},
		{f(0, 10, 4), "f.0 split x xo xi 4 guard\n", 40, map[int][]int{9: {9, 0}, 10: {0, 1}}, []int{10, 4}, true},
		{f(0, 10, 4), "f.0 split x xo xi 4 round_up\n", 48, map[int][]int{11: {11, 0}, 12: {0, 1}}, []int{12, 4}, false},
		{f(0, 10, 4), "f.0 split x xo xi 4 shift\n", 48, map[int][]int{7: {7, 0}, 8: {6, 0}, 9: {7, 0}, 11: {9, 0}}, []int{10, 4}, false},
		{f(0, 10, 4), "f.0 split x xo xi 5 exact\n", 40, map[int][]int{39: {9, 3}}, []int{10, 4}, true},
		{f(0, 8, 4), "f.0 split x xo xi 4 shift\n", 32, nil, []int{8, 4}, true},
		{f(0, 10, 4), "f.0 fuse x y t\nf.0 split t to ti 16 round_up\n", 48, map[int][]int{40: {0, 4}, 47: {7, 4}}, []int{10, 5}, false},
		{f(0, 10, 4), "f.0 fuse x y t\nf.0 split t to ti 16 guard\n", 40, map[int][]int{39: {9, 3}}, []int{10, 4}, true},
		{f(0, 10, 4), "f.0 fuse x y t\nf.0 split t to ti 16 shift\n", 48, map[int][]int{32: {4, 2}, 47: {9, 3}}, []int{10, 4}, false},
		{f(0, 10, 4), "f.0 split x xo xi 4 guard\nf.0 split y yo yi 2 exact\nf.0 reorder xi yi xo yo\nf.0 vectorize xi\n", 40, map[int][]int{3: {3, 0}, 4: {0, 1}, 8: {4, 0}, 16: {8, 0}, 18: {8, 1}, 20: {0, 2}}, []int{10, 4}, true},
		{f(0, 10, 4), "f.0 split x xo xi 4 round_up\nf.0 split xo a b 2 guard\n", 48, nil, []int{12, 4}, false},
		{f(0, 10, 4), "f.0 split x xo xi 4 guard\nf.0 split xo a b 2 round_up\n", 40, nil, []int{10, 4}, true},
		{f(0, 10, 4), "f.0 reorder y x\n", 40, map[int][]int{1: {0, 1}, 4: {1, 0}}, []int{10, 4}, true},
		{f(0, 0, 4), "", 0, nil, []int{0, 0}, true},
		{f(0, 0, 4), "f.0 split x a b 4 round_up\nf.0 fuse b a x\nf.0 fuse x y t\n", 0, nil, []int{0, 0}, true},
		{f(0, 0, 4), "f.0 fuse x y t\nf.0 split t a b 3 guard\n", 0, nil, []int{0, 0}, true},
		{f(0, 4, 0), "f.0 split x a b 3 round_up\n", 0, nil, []int{0, 0}, true},
		{f(1, 10, 4), "", 30, map[int][]int{0: {0, 0}, 1: {0, 1}, 3: {1, 0}}, []int{10, 3}, true},
		{f(1, 10, 4), "f.1 split r a b 2 guard\n", 30, map[int][]int{2: {0, 2}}, []int{10, 3}, true},
		{f(1, 10, 0), "", 30, nil, []int{10, 3}, true}, // the update has no loop for y
		{f(2, 10, 4), "", 320, map[int][]int{1: {0, 1, 0}, 2: {0, 0, 1}, 80: {1, 0, 0}}, []int{4, 2, 40}, true},
		{f(3, 10, 4), "", 1, map[int][]int{0: {}}, nil, true},
		{nest.Stage{Func: "h", Number: 2, Box: box(1, 1, 1)}, "", 4096, map[int][]int{4095: {0, 63, 63}}, []int{1, 64, 64}, true},
		{nest.Stage{Func: "h", Number: 2, Box: box(1, 1, 0)}, "h.2 split r a b 63 guard\n", 0, nil, []int{0, 0, 0}, true},
	} {
		s := schedule(t, c.s)
		points, err1 := nest.Points(p, s, c.x)
		reach, err2 := nest.Reach(p, s, c.x)
		once, err3 := nest.Once(p, s, c.x)
		if len(points) != c.count || !slices.Equal(reach, c.reach) || once != c.once || err1+err2+err3 != api.OK {
			t.Error(i, c.s, len(points), reach, once, err1, err2, err3)
			continue
		}
		for at, want := range c.some {
			if !slices.Equal(points[at], want) {
				t.Error("Points", i, c.s, at, points[at], want)
			}
		}
	}
}

func TestMeetsByHand(t *testing.T) {
	p := pipeline(t)
	x := nest.Stage{Func: "f", Box: box(10, 4)}
	for i, c := range []struct {
		s      string
		values []int
		want   []int
		holds  bool
		err    api.Errno
	}{
		{"", []int{9, 3}, []int{9, 3}, true, api.OK},
		{"f.0 split x xo xi 4 guard\n", []int{1, 2, 0}, []int{9, 0}, true, api.OK},
		{"f.0 split x xo xi 4 guard\n", []int{2, 2, 3}, []int{10, 3}, false, api.OK},
		{"f.0 split x xo xi 4 round_up\n", []int{2, 2, 3}, []int{10, 3}, true, api.OK},
		{"f.0 split x xo xi 4 shift\n", []int{2, 2, 3}, []int{8, 3}, true, api.OK},
		{"f.0 split x xo xi 4 guard\nf.0 split y yo yi 3 guard\n", []int{2, 2, 1, 1}, []int{10, 4}, false, api.OK},
		{"f.0 split x xo xi 4 guard\nf.0 split y yo yi 3 guard\n", []int{1, 2, 1, 1}, []int{9, 4}, false, api.OK},
		{"f.0 split x xo xi 4 guard\nf.0 split y yo yi 3 guard\n", []int{2, 2, 0, 1}, []int{10, 3}, false, api.OK},
		{"f.0 split x xo xi 4 guard\n", []int{4, 0, 0}, nil, false, api.ErrRange},
		{"f.0 split x xo xi 4 guard\n", []int{0, 3, 0}, nil, false, api.ErrRange},
		{"f.0 split x xo xi 4 guard\n", []int{0, 0, -1}, nil, false, api.ErrRange},
		{"f.0 split x xo xi 4 guard\n", []int{4, 0}, nil, false, api.ErrShape},
		{"f.0 split x xo xi 4 guard\n", []int{4, 0, 0, 0}, nil, false, api.ErrShape},
		{"f.0 split x xo xi 4 guard\n", []int{math.MaxInt, 0, 0}, nil, false, api.ErrRange},
		{"f.0 fuse x y t\n", []int{39}, []int{9, 3}, true, api.OK},
		{"f.0 fuse x y t\n", []int{40}, nil, false, api.ErrRange},
	} {
		offsets, holds, err := nest.Meets(p, schedule(t, c.s), x, c.values)
		if !slices.Equal(offsets, c.want) || holds != c.holds || err != c.err {
			t.Error("Meets", i, c.s, c.values, offsets, holds, err)
		}
	}
	offsets, holds, err := nest.Meets(p, nil, nest.Stage{Func: "f", Number: 3, Box: box(10, 4)}, nil)
	if len(offsets) > 0 || !holds || err != api.OK {
		t.Error("Meets without loops", offsets, holds, err)
	}
	_, _, err = nest.Meets(p, nil, nest.Stage{Func: "f", Box: box(10, 0)}, []int{0, 0})
	if err != api.ErrRange {
		t.Error("Meets of an empty box", err)
	}
}

func TestTimes(t *testing.T) {
	p := pipeline(t)
	x := nest.Stage{Func: "f", Box: box(10, 4)}
	inward := schedule(t, "f.0 split x xo xi 4 shift\n")
	for i, c := range []struct {
		s       api.Schedule
		offsets []int
		want    int
		err     api.Errno
	}{
		{inward, []int{7, 1}, 2, api.OK},
		{inward, []int{6, 3}, 2, api.OK},
		{inward, []int{8, 1}, 1, api.OK},
		{inward, []int{5, 1}, 1, api.OK},
		{inward, []int{10, 1}, 0, api.OK},
		{inward, []int{-1, 1}, 0, api.OK},
		{inward, []int{1, 4}, 0, api.OK},
		{inward, []int{math.MinInt, math.MaxInt}, 0, api.OK},
		{inward, []int{7}, 0, api.ErrShape},
		{inward, []int{7, 1, 0}, 0, api.ErrShape},
		{inward, make([]int, 9), 0, api.ErrShape},
		{nil, nil, 0, api.ErrShape},
	} {
		if n, err := nest.Times(p, c.s, x, c.offsets); n != c.want || err != c.err {
			t.Error("Times", i, c.offsets, n, err)
		}
	}
	if n, err := nest.Times(p, nil, nest.Stage{Func: "f", Number: 3, Box: box(1, 1)}, nil); n != 1 || err != api.OK {
		t.Error("Times of the only point", n, err)
	}
}

func TestLimit(t *testing.T) {
	p := pipeline(t)
	wide := nest.Stage{Func: "f", Box: box(64, 64)}
	s := schedule(t, "f.0 split x a b 63 round_up\n")
	points, err1 := nest.Points(p, s, wide)
	n, err2 := nest.Times(p, s, wide, nil) // the limit is asked first
	once, err3 := nest.Once(p, s, wide)
	reach, err4 := nest.Reach(p, s, wide)
	offsets, holds, err5 := nest.Meets(p, s, wide, []int{62, 1, 63})
	if len(points) > 0 || n != 0 || once || err1 != api.ErrLimit || err2 != api.ErrLimit || err3 != api.ErrLimit {
		t.Error("limit", len(points), n, once, err1, err2, err3)
	}
	if !slices.Equal(reach, []int{126, 64}) || err4 != api.OK || !slices.Equal(offsets, []int{125, 63}) || !holds || err5 != api.OK {
		t.Error("Reach, Meets", reach, err4, offsets, holds, err5)
	}
	points, err1 = nest.Points(p, nil, wide)
	if len(points) != 4096 || err1 != api.OK {
		t.Error("4096 points", len(points), err1)
	}
}

// TestFarOffsets rounds the outer loop of a split up again and again: few loops, whose offsets wrap.
func TestFarOffsets(t *testing.T) {
	p := pipeline(t)
	x := nest.Stage{Func: "g", Box: box(64)}
	s := api.Schedule{{Func: "g", Op: api.Split, Vars: []string{"x", "o", "i"}, Factor: 64}}
	last := "o"
	for i := range 21 {
		o := fmt.Sprint("o", i)
		s = append(s, api.Directive{Func: "g", Op: api.Split, Vars: []string{last, o, fmt.Sprint("i", i)}, Factor: 64})
		last = o
		want, _, err := made(p, s, x)
		if err != api.OK {
			t.Fatal("oracle", err)
		}
		reach, err := nest.Reach(p, s, x)
		if !slices.Equal(reach, want.reach()) || err != api.OK || reach[0] <= 0 {
			t.Error("Reach", i, reach, err, want.reach())
		}
		values := list63(len(want.loops))
		offsets, holds := want.meets(values)
		got, is, err := nest.Meets(p, s, x, values)
		if !slices.Equal(got, offsets) || is != holds || err != api.OK {
			t.Error("Meets", i, got, is, err, offsets, holds)
		}
		if _, err := nest.Points(p, s, x); (err == api.OK) != (i == 0) {
			t.Error("Points", i, err)
		}
	}
	// Some more that come by wrapped numbers: a guard, a part that is shifted inward, and a fused loop.
	for _, text := range []string{"g.0 split x a b 3 shift\n", "g.0 split x a b 3 guard\n", "g.0 split x a b 32 exact\ng.0 fuse b a q\ng.0 split q o i 64 round_up\n"} {
		l := schedule(t, text)
		last := "a"
		if len(l) == 3 {
			last = "o"
		}
		for i := range 6 {
			o := fmt.Sprint("o", i)
			l = append(l, api.Directive{Func: "g", Op: api.Split, Vars: []string{last, o, fmt.Sprint("i", i)}, Factor: 64})
			last = o
			want, _, _ := made(p, l, x)
			reach, _ := nest.Reach(p, l, x)
			values := make([]int, len(want.loops))
			for j, loop := range want.loops {
				values[j] = loop.Extent - 1
			}
			offsets, holds := want.meets(values)
			got, is, err := nest.Meets(p, l, x, values)
			if !slices.Equal(got, offsets) || is != holds || err != api.OK || !slices.Equal(reach, want.reach()) {
				t.Error("Meets", text, i, got, is, err, offsets, holds, reach, want.reach())
			}
		}
	}
}

// list63 returns the greatest values of loops with the extent 64 but for the outermost one, which has 1.
func list63(n int) []int {
	out := slices.Repeat([]int{63}, n)
	out[n-1] = 0
	return out
}

// Promise P9.4.

func sorted(points [][]int) [][]int {
	out := slices.Clone(points)
	sort.Slice(out, func(i, j int) bool { return slices.Compare(out[i], out[j]) < 0 })
	return out
}

func pointsOf(t *testing.T, p api.Pipeline, s api.Schedule, x nest.Stage) [][]int {
	t.Helper()
	out, err := nest.Points(p, s, x)
	if err != api.OK {
		t.Fatal("Points", s, x, err)
	}
	return out
}

func TestLaws(t *testing.T) {
	p := pipeline(t)
	seen := map[string]int{}
	for seed := range int64(madeNests) {
		m := maker{rand.New(rand.NewSource(seed))}
		x := m.stage(p)
		s := m.schedule(p, x)
		if _, err := sched.CheckFor(p, s); err != api.OK {
			continue
		}
		o, _, err := made(p, s, x)
		if err != api.OK || o.combinations() < 0 {
			continue
		}
		points := pointsOf(t, p, s, x)
		lawsOfPoints(t, p, s, x, o, points, seen)
		for range 4 {
			d := m.directive(x, o)
			longer := append(slices.Clone(s), d)
			if _, err := sched.CheckFor(p, longer); err != api.OK {
				continue
			}
			if longerOracle, _, err := made(p, longer, x); err != api.OK || longerOracle.combinations() < 0 {
				continue
			}
			lawsOfDirective(t, d, points, pointsOf(t, p, longer, x), seen)
		}
	}
	for _, what := range []string{"exact", "met", "rounded", "shifted", "reorder", "split by 1", "fuse", "rename", "mark"} {
		if seen[what] < 20 {
			t.Error("rare", what, seen)
		}
	}
}

func lawsOfPoints(t *testing.T, p api.Pipeline, s api.Schedule, x nest.Stage, o *oracle, points [][]int, seen map[string]int) {
	t.Helper()
	tails := map[int]bool{}
	for _, d := range s {
		if d.Func == x.Func && d.Stage == x.Number && d.Op == api.Split {
			tails[d.Tail] = true
		}
	}
	once, err := nest.Once(p, s, x)
	if !tails[api.RoundUp] && !tails[api.ShiftInward] {
		seen["exact"]++
		if !once || err != api.OK {
			t.Fatal("not met once", s, x, once, err)
		}
	}
	met := map[string]bool{}
	greatest := make([]int, len(o.axes))
	for _, point := range points {
		met[fmt.Sprint(point)] = true
		for i, offset := range point {
			greatest[i] = max(greatest[i], offset)
		}
	}
	whole, _, _ := made(p, nil, x)
	for _, point := range whole.points() {
		seen["met"]++
		if !met[fmt.Sprint(point)] {
			t.Fatal("a point is not met", s, x, point)
		}
	}
	reach, err := nest.Reach(p, s, x)
	for i, a := range o.axes {
		switch {
		case len(points) == 0:
			if reach[i] != 0 {
				t.Fatal("the reach where nothing is met", s, x, reach)
			}
		case err != api.OK || reach[i] < a.Extent || reach[i] <= greatest[i]:
			t.Fatal("the reach is too small", s, x, reach, greatest, err)
		case !tails[api.RoundUp] && reach[i] != a.Extent, !o.isFused && reach[i] != greatest[i]+1:
			t.Fatal("the reach is too great", s, x, reach, greatest)
		}
	}
	if tails[api.RoundUp] {
		seen["rounded"]++
	}
	if tails[api.ShiftInward] {
		seen["shifted"]++
	}
}

func lawsOfDirective(t *testing.T, d api.Directive, before, after [][]int, seen map[string]int) {
	t.Helper()
	what := "mark"
	switch {
	case d.Op == api.Split && d.Factor > 1:
		return
	case d.Op == api.Split:
		what = "split by 1"
	case d.Op == api.Fuse:
		what = "fuse"
	case d.Op == api.Rename:
		what = "rename"
	case d.Op == api.Reorder:
		what = "reorder"
		before, after = sorted(before), sorted(after)
	}
	seen[what]++
	if !slices.EqualFunc(before, after, slices.Equal) {
		t.Fatal("other points", d, before, after)
	}
}
