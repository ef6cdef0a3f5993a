package image_test

import (
	"slices"
	"testing"

	"halation/api"
	"halation/image"
)

// Promise P4.3.

func TestParts(t *testing.T) {
	for seed := range int64(runs) {
		r := source(seed)
		im := randomImage(r)
		kept, values := copied(im), tableOf(im)
		at := func(p []int) uint64 { return values[place(p)] }
		if d, err := image.Dense(im); err != api.OK || !isDense(d, im.Kind, im.Box, at) {
			t.Fatal("Dense", seed, d, err)
		}
		checkCrop(t, seed, im, values)
		dim := r.Intn(len(im.Box))
		c := im.Box[dim].Min - 1 + r.Intn(im.Box[dim].Extent+2)
		s, err := image.Slice(im, dim, c)
		rest := slices.Delete(slices.Clone(im.Box), dim, dim+1)
		isIn := c >= im.Box[dim].Min && c < im.Box[dim].Min+im.Box[dim].Extent
		switch {
		case len(rest) == 0 && err != api.ErrDims, len(rest) > 0 && !isIn && err != api.ErrBounds, len(rest) > 0 && isIn && err != api.OK:
			t.Fatal("Slice", seed, im.Box, dim, c, err)
		case err == api.OK && !isDense(s, im.Kind, rest, func(p []int) uint64 { return at(slices.Insert(slices.Clone(p), dim, c)) }):
			t.Fatal("Slice", seed, im, dim, c, s)
		}
		a, b := r.Intn(len(im.Box)), r.Intn(len(im.Box))
		exchanged := slices.Clone(im.Box)
		exchanged[a], exchanged[b] = exchanged[b], exchanged[a]
		turned, err := image.Transpose(im, a, b)
		if err != api.OK || !isDense(turned, im.Kind, exchanged, func(p []int) uint64 {
			q := slices.Clone(p)
			q[a], q[b] = q[b], q[a]
			return at(q)
		}) {
			t.Fatal("Transpose", seed, im, a, b, turned, err)
		}
		turned.Box[0].Min = 99
		if !equal(im, kept) {
			t.Fatal("a changed argument", seed)
		}
	}
}

func checkCrop(t *testing.T, seed int64, im api.Image, values table) {
	t.Helper()
	r := source(seed)
	b := slices.Clone(im.Box)
	for i := range b {
		b[i].Min += r.Intn(3)
		b[i].Extent = max(0, b[i].Extent-r.Intn(4))
	}
	want := api.OK
	for _, p := range pointsOf(b) {
		if _, ok := values[place(p)]; !ok {
			want = api.ErrBounds
		}
	}
	c, err := image.Crop(im, b)
	if err != want || err != api.OK && !equal(c, api.Image{}) {
		t.Fatal("Crop", seed, im.Box, b, err)
	}
	if err == api.OK && !isDense(c, im.Kind, b, func(p []int) uint64 { return values[place(p)] }) {
		t.Fatal("Crop", seed, im, b, c)
	}
}

func TestPartsErrors(t *testing.T) {
	for want, l := range badImages() {
		for _, im := range l {
			_, e1 := image.Dense(im)
			_, e2 := image.Crop(im, nil)
			_, e3 := image.Slice(im, 9, 0)
			_, e4 := image.Transpose(im, 9, 9)
			_, e5 := image.Edge(im, 9, nil, api.Value{Kind: 11})
			if !slices.Equal([]api.Errno{e1, e2, e3, e4, e5}, slices.Repeat([]api.Errno{want}, 5)) {
				t.Error("a wrong image", want, e1, e2, e3, e4, e5)
			}
		}
	}
	line := api.Image{Kind: api.U8, Box: box(0, 2), Strides: []int{1}, Data: []uint64{1, 2}}
	none := api.Image{Kind: api.U8, Box: box(0, 2, 5, 0), Strides: []int{1, 2}}
	for i, x := range []struct {
		b api.Box
		e api.Errno
	}{
		{box(0, 65), api.ErrRange}, {nil, api.ErrDims}, {box(3, 1), api.ErrDims}, {box(3, 1, 0, 1, 0, 1), api.ErrDims}, {box(50, 0), api.ErrDims}, {box(1, 1, 0, 1), api.ErrBounds}, {box(3, 3, 0, 1), api.ErrBounds}, {box(3, 1, 1, 2), api.ErrBounds}, {box(3, 1, -1, 1), api.ErrBounds}, {box(50, 0, 60, 2), api.OK}, {box(50, 2, 60, 0), api.OK}, {box(2, 3, 0, 2), api.OK},
	} {
		if _, err := image.Crop(example(), x.b); err != x.e {
			t.Error("Crop", i, err)
		}
	}
	if _, err := image.Crop(none, box(0, 1, 5, 1)); err != api.ErrBounds {
		t.Error("Crop of an empty image", err)
	}
	for i, x := range []struct {
		im      api.Image
		dim, at int
		e       api.Errno
	}{
		{line, 9, 9, api.ErrDims}, {line, 0, 0, api.ErrDims}, {example(), 2, 99, api.ErrRange}, {example(), -1, 2, api.ErrRange}, {example(), 1 << 62, 2, api.ErrRange}, {example(), 0, 1, api.ErrBounds}, {example(), 0, 5, api.ErrBounds}, {example(), 1, 2, api.ErrBounds}, {example(), 1, -1, api.ErrBounds}, {example(), 0, 4, api.OK}, {none, 1, 5, api.ErrBounds}, {none, 0, 1, api.OK}, {example(), 0, 1<<63 - 1, api.ErrBounds}, {example(), 0, -1 << 63, api.ErrBounds},
	} {
		if _, err := image.Slice(x.im, x.dim, x.at); err != x.e {
			t.Error("Slice", i, err)
		}
	}
	for i, x := range []struct {
		a, b int
		e    api.Errno
	}{{0, 1, api.OK}, {1, 1, api.OK}, {2, 0, api.ErrRange}, {-1, 0, api.ErrRange}, {0, 2, api.ErrRange}, {0, -1, api.ErrRange}} {
		if _, err := image.Transpose(example(), x.a, x.b); err != x.e {
			t.Error("Transpose", i, err)
		}
	}
}

// folded returns the coordinate by a rule in the document's words.
func folded(rule int, r api.Range, c int) int {
	modulo := func(n, m int) int {
		for n < 0 {
			n += m
		}
		return n % m
	}
	switch rule {
	case image.Repeat:
		return r.Min + modulo(c-r.Min, r.Extent)
	case image.Mirror:
		m := modulo(c-r.Min, 2*r.Extent)
		if m < r.Extent {
			return r.Min + m
		}
		return r.Min + 2*r.Extent - 1 - m
	}
	for c < r.Min {
		c++
	}
	for c > r.Min+r.Extent-1 {
		c--
	}
	return c
}

func TestEdge(t *testing.T) {
	for seed := range int64(runs) {
		r := source(seed)
		im := randomImage(r)
		values := tableOf(im)
		outside := api.Value{Kind: im.Kind, Bits: randomBits(r, im.Kind)}
		for range 8 {
			rule, p := r.Intn(4), make([]int, len(im.Box))
			moved := make([]int, len(p))
			for i, b := range im.Box {
				p[i] = min(api.MaxCoord, max(-api.MaxCoord, b.Min-12+r.Intn(b.Extent+24)))
			}
			want, wantErr := api.Value{}, api.OK
			if len(values) > 0 {
				for i, b := range im.Box {
					moved[i] = folded(rule, b, p[i])
				}
				want = api.Value{Kind: im.Kind, Bits: values[place(moved)]}
			} else {
				wantErr = api.ErrEmpty
			}
			if _, isIn := values[place(p)]; rule == image.Constant {
				wantErr = api.OK
				if !isIn {
					want = outside
				}
			}
			if v, err := image.Edge(im, rule, p, outside); v != want || err != wantErr {
				t.Fatal("Edge", seed, im, rule, p, v, err, want, wantErr)
			}
		}
	}
}

func TestEdgeNamed(t *testing.T) {
	right, wide, wrong := api.Value{Kind: api.U8, Bits: 7}, api.Value{Kind: api.U16, Bits: 7}, api.Value{Kind: api.U8, Bits: 256}
	none := api.Image{Kind: api.U8, Box: box(0, 2, 5, 0), Strides: []int{1, 2}}
	end := api.Image{Kind: api.U8, Box: box(api.MaxCoord, 1, -api.MaxCoord, 3), Strides: []int{1, 1}, Data: []uint64{1, 2, 3}}
	for i, x := range []struct {
		im      api.Image
		rule    int
		p       []int
		outside api.Value
		v       uint64
		e       api.Errno
	}{
		{example(), image.Clamp, []int{0, 5}, wrong, 40, api.OK}, {example(), image.Repeat, []int{0, 5}, wrong, 50, api.OK}, {example(), image.Mirror, []int{0, 5}, wrong, 50, api.OK}, {example(), image.Mirror, []int{5, 2}, wrong, 60, api.OK}, {example(), image.Constant, []int{0, 5}, right, 7, api.OK}, {example(), image.Constant, []int{3, 1}, right, 50, api.OK},
		{example(), 4, nil, wrong, 0, api.ErrKind}, {example(), -1, nil, wrong, 0, api.ErrKind}, {example(), image.Clamp, []int{1 << 30}, wrong, 0, api.ErrDims}, {example(), image.Clamp, []int{0, 0, 0}, wrong, 0, api.ErrDims}, {example(), image.Clamp, []int{0, 1<<20 + 1}, wrong, 0, api.ErrRange}, {example(), image.Constant, []int{-1<<20 - 1, 0}, wrong, 0, api.ErrRange}, {example(), image.Repeat, []int{1<<63 - 1, -1 << 63}, wrong, 0, api.ErrRange},
		{example(), image.Constant, []int{3, 1}, wrong, 0, api.ErrForm}, {example(), image.Constant, []int{3, 1}, api.Value{Kind: 11}, 0, api.ErrKind}, {example(), image.Constant, []int{3, 1}, wide, 0, api.ErrType}, {none, image.Constant, []int{0, 0}, wide, 0, api.ErrType}, {none, image.Constant, []int{0, 0}, right, 7, api.OK}, {none, image.Clamp, []int{0, 0}, right, 0, api.ErrEmpty}, {none, image.Repeat, []int{0, 0}, right, 0, api.ErrEmpty}, {none, image.Mirror, []int{0, 0}, wrong, 0, api.ErrEmpty}, {none, image.Mirror, []int{0}, wrong, 0, api.ErrDims}, {none, image.Mirror, []int{0, 1 << 21}, wrong, 0, api.ErrRange},
		{end, image.Clamp, []int{-1 << 20, 1 << 20}, wrong, 3, api.OK}, {end, image.Repeat, []int{-1 << 20, 1 << 20}, wrong, 3, api.OK}, {end, image.Mirror, []int{-1 << 20, 1 << 20}, wrong, 3, api.OK}, {end, image.Constant, []int{1 << 20, -1 << 20}, right, 1, api.OK},
	} {
		if v, err := image.Edge(x.im, x.rule, x.p, x.outside); v.Bits != x.v || err != x.e || err != api.OK && v != (api.Value{}) {
			t.Error("Edge", i, v, err)
		}
	}
}

// Promise P4.5, of images.

func TestPartsTogether(t *testing.T) {
	for seed := range int64(runs) {
		r := source(seed)
		im := randomImage(r)
		dense, _ := image.Dense(im)
		a, b := r.Intn(len(im.Box)), r.Intn(len(im.Box))
		once, _ := image.Transpose(im, a, b)
		twice, err := image.Transpose(once, a, b)
		if err != api.OK || !equal(twice, dense) {
			t.Fatal("transposed twice", seed)
		}
		outer, inner := slices.Clone(im.Box), slices.Clone(im.Box)
		for i := range im.Box {
			cut := r.Intn(im.Box[i].Extent + 1)
			outer[i] = api.Range{Min: im.Box[i].Min + cut, Extent: im.Box[i].Extent - cut}
			inner[i] = api.Range{Min: outer[i].Min, Extent: r.Intn(outer[i].Extent + 1)}
		}
		direct, e1 := image.Crop(im, inner)
		c, e2 := image.Crop(im, outer)
		c, e3 := image.Crop(c, inner)
		if e1 != api.OK || e2 != api.OK || e3 != api.OK || !equal(direct, c) {
			t.Fatal("a crop of a crop", seed, im.Box, outer, inner, e1, e2, e3)
		}
		checkBoundaries(t, seed, im)
	}
}

// checkBoundaries looks at boundaries inside, and at their periods.
func checkBoundaries(t *testing.T, seed int64, im api.Image) {
	t.Helper()
	zero := api.Value{Kind: im.Kind}
	for _, p := range pointsOf(im.Box) {
		want, _ := image.At(im, p)
		for rule := range 4 {
			if v, err := image.Edge(im, rule, p, zero); v != want || err != api.OK {
				t.Fatal("a boundary inside", seed, rule, p, v, err)
			}
		}
		for i, b := range im.Box {
			for _, turns := range []int{-3, -1, 1, 2} {
				q := slices.Clone(p)
				q[i] += turns * b.Extent
				v, e1 := image.Edge(im, image.Repeat, q, zero)
				q[i] = p[i] + turns*2*b.Extent
				w, e2 := image.Edge(im, image.Mirror, q, zero)
				if e1 == api.OK && v != want || e2 == api.OK && w != want {
					t.Fatal("a period", seed, p, i, turns, v, w)
				}
			}
		}
	}
}
