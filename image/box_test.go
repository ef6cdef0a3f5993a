package image_test

import (
	"math/rand"
	"slices"
	"testing"

	"halation/api"
	"halation/image"
)

// badBoxes are boxes with errors, each with its first one.
func badBoxes() map[api.Errno][]api.Box {
	return map[api.Errno][]api.Box{
		api.ErrDims:  {nil, {}, make(api.Box, 4), box(0, 65, 0, 65, 0, 65, 0, 65)},
		api.ErrRange: {box(api.MaxCoord+1, 0), box(-api.MaxCoord-1, 1), box(0, -1), box(0, 65), box(api.MaxCoord, 2), box(api.MaxCoord-62, 64), box(0, 1, 0, 1, 0, -1), box(0, 64, 0, 64, 0, 65), box(1<<63-1, 1), box(-1<<63, 1), box(0, 1<<63-1), box(0, -1<<63), box(1<<63-1, 1<<63-1)},
		api.ErrMany:  {box(0, 64, 0, 64, 0, 2), box(0, 64, 0, 64, 0, 64), box(0, 17, 0, 16, 0, 16), box(0, 63, 0, 33, 0, 2)},
	}
}

func rightBoxes() []api.Box {
	return []api.Box{box(0, 0), box(api.MaxCoord, 1), box(-api.MaxCoord, 64), box(api.MaxCoord-63, 64), box(2, 3, 0, 2), box(0, 64, 0, 64), box(0, 64, 0, 64, 0, 1), box(0, 64, 0, 64, 0, 0), box(0, 0, 0, 64, 0, 64), box(0, 16, 0, 16, 0, 16), box(5, 1, -3, 4, 0, 2)}
}

// Promise P4.1.

func TestCheckBox(t *testing.T) {
	for want, l := range badBoxes() {
		for i, b := range l {
			n, e1 := image.Size(b)
			l, e2 := image.Points(b)
			is, e3 := image.Has(b, nil)
			at, e4 := image.Index(b, nil)
			both, e5 := image.Intersect(b, nil)
			all, e6 := image.Union(b, nil)
			both2, e7 := image.Intersect(box(0, 1), b)
			all2, e8 := image.Union(box(0, 1), b)
			if !slices.Equal([]api.Errno{image.CheckBox(b), e1, e2, e3, e4, e5, e6, e7, e8}, slices.Repeat([]api.Errno{want}, 9)) {
				t.Error("a wrong box", want, i, image.CheckBox(b), e1, e2, e3, e4, e5, e6, e7, e8)
			}
			if n != 0 || l != nil || is || at != 0 || both != nil || all != nil || both2 != nil || all2 != nil {
				t.Error("results beside an error", want, i)
			}
		}
	}
	for i, b := range rightBoxes() {
		if err := image.CheckBox(b); err != api.OK {
			t.Error("a right box", i, err)
		}
	}
}

func TestPoints(t *testing.T) {
	for i, b := range rightBoxes() {
		want := pointsOf(b)
		n, e1 := image.Size(b)
		l, e2 := image.Points(b)
		if n != len(want) || !slices.EqualFunc(l, want, slices.Equal) || e1 != api.OK || e2 != api.OK {
			t.Error("Size, Points", i, n, len(l), e1, e2)
		}
		for j, p := range l {
			at, e1 := image.Index(b, p)
			is, e2 := image.Has(b, p)
			if at != j || !is || e1 != api.OK || e2 != api.OK {
				t.Error("Index, Has", i, p, at, is)
			}
			_ = append(p, 99)
			p[0] = -5
		}
		again, _ := image.Points(b)
		if !slices.EqualFunc(again, want, slices.Equal) {
			t.Error("points share memory", i)
		}
	}
	l, _ := image.Points(box(2, 3, 0, 2))
	if !slices.EqualFunc(l, [][]int{{2, 0}, {3, 0}, {4, 0}, {2, 1}, {3, 1}, {4, 1}}, slices.Equal) {
		t.Error("the document's points", l)
	}
}

func TestRawPoints(t *testing.T) {
	b := box(2, 3, 0, 2)
	for i, x := range []struct {
		p          []int
		is         bool
		n          int
		has, index api.Errno
	}{
		{[]int{3, 1}, true, 4, api.OK, api.OK}, {[]int{2, 0}, true, 0, api.OK, api.OK}, {[]int{4, 1}, true, 5, api.OK, api.OK}, {[]int{1, 0}, false, 0, api.OK, api.ErrBounds}, {[]int{5, 0}, false, 0, api.OK, api.ErrBounds}, {[]int{3, -1}, false, 0, api.OK, api.ErrBounds}, {[]int{3, 2}, false, 0, api.OK, api.ErrBounds},
		{[]int{1<<63 - 1, 0}, false, 0, api.OK, api.ErrBounds}, {[]int{-1 << 63, 0}, false, 0, api.OK, api.ErrBounds}, {[]int{2, 1 << 40}, false, 0, api.OK, api.ErrBounds},
		{nil, false, 0, api.ErrDims, api.ErrDims}, {[]int{2}, false, 0, api.ErrDims, api.ErrDims}, {[]int{2, 0, 0}, false, 0, api.ErrDims, api.ErrDims}, {make([]int, 50), false, 0, api.ErrDims, api.ErrDims},
	} {
		is, e1 := image.Has(b, x.p)
		n, e2 := image.Index(b, x.p)
		if is != x.is || n != x.n || e1 != x.has || e2 != x.index {
			t.Error("Has, Index", i, is, n, e1, e2)
		}
	}
	if is, err := image.Has(box(0, 3, 0, 0), []int{1, 0}); is || err != api.OK {
		t.Error("an empty box has no point", is, err)
	}
	if _, err := image.Index(box(0, 3, 0, 0), []int{1, 0}); err != api.ErrBounds {
		t.Error("an empty box has no index", err)
	}
}

func TestIntersectAndUnion(t *testing.T) {
	big := box(0, 64, 0, 64)
	for i, x := range []struct {
		a, b, both, all api.Box
		e1, e2          api.Errno
	}{
		{box(2, 3, 0, 2), box(3, 2, 1, 5), box(3, 2, 1, 1), box(2, 3, 0, 6), api.OK, api.OK},
		{box(0, 1), box(0, 1, 0, 1), nil, nil, api.ErrDims, api.ErrDims},
		{box(0, 2), box(5, 2), box(5, 0), box(0, 7), api.OK, api.OK}, {box(5, 2), box(0, 2), box(5, 0), box(0, 7), api.OK, api.OK}, {box(0, 5), box(5, 2), box(5, 0), box(0, 7), api.OK, api.OK},
		{box(0, 0, 3, 4), box(1, 1, 9, 1), box(1, 0, 9, 0), box(1, 1, 9, 1), api.OK, api.OK}, {box(1, 1, 9, 1), box(0, 0, 3, 4), box(1, 0, 9, 0), box(1, 1, 9, 1), api.OK, api.OK},
		{box(0, 0, 3, 4), box(7, 2, 5, 0), box(7, 0, 5, 0), box(0, 0, 3, 4), api.OK, api.OK},
		{box(0, 1), box(63, 1), box(63, 0), box(0, 64), api.OK, api.OK}, {box(0, 1), box(64, 1), box(64, 0), nil, api.OK, api.ErrLarge},
		{big, box(0, 64, 0, 64), big, big, api.OK, api.OK}, {box(0, 40, 0, 40, 0, 1), box(0, 1, 0, 1, 2, 1), box(0, 1, 0, 1, 2, 0), nil, api.OK, api.ErrLarge}, {box(-api.MaxCoord, 1), box(api.MaxCoord, 1), box(api.MaxCoord, 0), nil, api.OK, api.ErrLarge},
	} {
		both, e1 := image.Intersect(x.a, x.b)
		all, e2 := image.Union(x.a, x.b)
		if !slices.Equal(both, x.both) || !slices.Equal(all, x.all) || e1 != x.e1 || e2 != x.e2 {
			t.Error("Intersect, Union", i, both, all, e1, e2)
		}
	}
	a := box(0, 2, 0, 2)
	for _, b := range []api.Box{box(0, 0, 0, 0), box(1, 1, 1, 1), box(0, 2, 0, 2)} {
		for _, f := range []func(a, b api.Box) (api.Box, api.Errno){image.Intersect, image.Union} {
			out, _ := f(a, b)
			out[0].Min = 77
			out, _ = f(b, a)
			out[0].Min = 77
			if a[0].Min != 0 || b[0].Min == 77 {
				t.Fatal("boxes share memory")
			}
		}
	}
}

// Promise P4.5, of boxes.

func TestBoxesTogether(t *testing.T) {
	has := func(b api.Box, p []int) bool {
		is, err := image.Has(b, p)
		return is && err == api.OK
	}
	for seed := range int64(runs) {
		r := rand.New(rand.NewSource(seed))
		dims := 1 + r.Intn(3)
		a, b := randomBox(r, dims), randomBox(r, dims)
		both, e1 := image.Intersect(a, b)
		all, e2 := image.Union(a, b)
		if e1 != api.OK || e2 != api.OK || image.CheckBox(both) != api.OK || image.CheckBox(all) != api.OK {
			t.Fatal(seed, a, b, e1, e2)
		}
		inAll, inBoth := 0, 0
		l := append(pointsOf(a), pointsOf(b)...)
		for _, p := range l {
			if has(all, p) {
				inAll++
			}
		}
		for _, p := range pointsOf(a) {
			if has(b, p) != has(both, p) {
				t.Fatal("an intersection", seed, a, b, both, p)
			}
			if has(b, p) {
				inBoth++
			}
		}
		if size, _ := image.Size(both); size != inBoth || inAll != len(l) {
			t.Fatal("points", seed, a, b, both, all)
		}
		for i := range all { // no range can begin later or end earlier
			first := slices.ContainsFunc(l, func(p []int) bool { return p[i] == all[i].Min })
			last := slices.ContainsFunc(l, func(p []int) bool { return p[i] == all[i].Min+all[i].Extent-1 })
			if len(l) > 0 && (!first || !last) {
				t.Fatal("a union that is too large", seed, a, b, all)
			}
		}
	}
}
