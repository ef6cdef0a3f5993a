package image_test

import (
	"math/rand"
	"slices"
	"testing"

	"halation/api"
	"halation/image"
	"halation/num"
)

// box returns a box of pairs of Min and Extent.
func box(l ...int) api.Box {
	var out api.Box
	for i := 0; i < len(l); i += 2 {
		out = append(out, api.Range{Min: l[i], Extent: l[i+1]})
	}
	return out
}

// example returns the document's I.
func example() api.Image {
	return api.Image{Kind: api.U8, Box: box(2, 3, 0, 2), Strides: []int{1, 3}, Data: []uint64{10, 20, 30, 40, 50, 60}}
}

func copied(im api.Image) api.Image {
	return api.Image{Kind: im.Kind, Box: slices.Clone(im.Box), Strides: slices.Clone(im.Strides), Data: slices.Clone(im.Data)}
}

func equal(a, b api.Image) bool {
	return a.Kind == b.Kind && slices.Equal(a.Box, b.Box) && slices.Equal(a.Strides, b.Strides) && slices.Equal(a.Data, b.Data)
}

// pointsOf returns the points of a box, the first coordinate going fastest.
func pointsOf(b api.Box) [][]int {
	out := [][]int{nil}
	for i := len(b) - 1; i >= 0; i-- {
		var longer [][]int
		for _, p := range out {
			for c := b[i].Min; c < b[i].Min+b[i].Extent; c++ {
				longer = append(longer, append([]int{c}, p...))
			}
		}
		out = longer
	}
	return out
}

// place is a point as a key.
func place(p []int) [3]int {
	var out [3]int
	copy(out[:], p)
	return out
}

// table is the bits of an image at its points.
type table map[[3]int]uint64

func tableOf(im api.Image) table {
	out := table{}
	for _, p := range pointsOf(im.Box) {
		at := 0
		for i := range p {
			at += (p[i] - im.Box[i].Min) * im.Strides[i]
		}
		out[place(p)] = im.Data[at]
	}
	return out
}

// isDense reports whether an image is dense, and has the bits of a table at the points of a box.
func isDense(im api.Image, kind int, b api.Box, bits func(p []int) uint64) bool {
	stride := 1
	for i, r := range b {
		if i >= len(im.Strides) || im.Strides[i] != stride {
			return false
		}
		stride *= r.Extent
	}
	l := pointsOf(b)
	if im.Kind != kind || !slices.Equal(im.Box, b) || len(im.Data) != len(l) || len(im.Strides) != len(b) {
		return false
	}
	for i, p := range l {
		if im.Data[i] != bits(p) {
			return false
		}
	}
	return image.Check(im) == api.OK
}

// randomBits returns the bits of a value of a kind.
func randomBits(r *rand.Rand, kind int) uint64 {
	switch kind {
	case api.F32, api.C64:
		v, _ := num.Cast(kind, api.Value{Kind: api.I16, Bits: uint64(r.Intn(1 << 16))})
		if kind == api.C64 {
			v, _ = num.Apply(api.EMul, v, api.Value{Kind: api.C64, Bits: 0x3f8000003f800000})
		}
		return v.Bits
	}
	v, _ := num.Wrap(kind, int64(r.Uint64()))
	return v.Bits
}

func randomBox(r *rand.Rand, dims int) api.Box {
	var out api.Box
	for range dims {
		out = append(out, api.Range{Min: r.Intn(9) - 4, Extent: r.Intn(5)})
	}
	return out
}

// randomImage returns a right image, often one that is not dense.
func randomImage(r *rand.Rand) api.Image {
	im := api.Image{Kind: r.Intn(api.Kinds), Box: randomBox(r, 1+r.Intn(3))}
	if r.Intn(4) == 0 {
		im.Box[r.Intn(len(im.Box))].Min = []int{-api.MaxCoord, api.MaxCoord - 5}[r.Intn(2)]
	}
	im.Strides = make([]int, len(im.Box))
	stride, last := 1+r.Intn(2), 0
	for _, i := range r.Perm(len(im.Box)) {
		im.Strides[i] = stride
		last += stride * max(0, im.Box[i].Extent-1)
		stride *= max(1, im.Box[i].Extent) + r.Intn(2)
	}
	for range last + 1 + r.Intn(3) {
		im.Data = append(im.Data, randomBits(r, im.Kind))
	}
	return im
}

func source(seed int64) *rand.Rand { return rand.New(rand.NewSource(seed)) }

const runs = 2000

// badImages are images with errors, each with its first one.
func badImages() map[api.Errno][]api.Image {
	change := func(f func(im *api.Image)) api.Image {
		im := example()
		f(&im)
		return im
	}
	return map[api.Errno][]api.Image{
		api.ErrKind:     {change(func(im *api.Image) { im.Kind, im.Box = 11, nil }), change(func(im *api.Image) { im.Kind = -1 })},
		api.ErrDims:     {change(func(im *api.Image) { im.Box, im.Strides = nil, nil }), change(func(im *api.Image) { im.Box = box(0, 65, 0, 1, 0, 1, 0, 1) })},
		api.ErrShape:    {change(func(im *api.Image) { im.Strides = []int{-1} }), change(func(im *api.Image) { im.Strides = []int{1, 3, -1} }), change(func(im *api.Image) { im.Strides = nil })},
		api.ErrRange:    {change(func(im *api.Image) { im.Box[0].Extent, im.Strides = 65, nil }), change(func(im *api.Image) { im.Strides, im.Data = []int{1, -1}, make([]uint64, 5000) }), change(func(im *api.Image) { im.Strides[0] = 4097 })},
		api.ErrMany:     {change(func(im *api.Image) { im.Data = slices.Repeat([]uint64{256}, 4097) }), change(func(im *api.Image) { im.Box, im.Strides = box(0, 64, 0, 64, 0, 2), nil })},
		api.ErrForm:     {change(func(im *api.Image) { im.Data[5] = 256 }), change(func(im *api.Image) { im.Data, im.Strides = []uint64{1, 2, 3, 256}, []int{0, 0} }), {Kind: api.F32, Box: box(0, 1), Strides: []int{1}, Data: []uint64{1 << 31}}, {Kind: api.Bool, Box: box(0, 1), Strides: []int{1}, Data: []uint64{2}}, {Kind: api.U8, Box: box(0, 0), Strides: []int{1}, Data: []uint64{256}}},
		api.ErrBounds:   {change(func(im *api.Image) { im.Data = im.Data[:5] }), change(func(im *api.Image) { im.Strides[1] = 4 }), change(func(im *api.Image) { im.Strides = []int{9, 0} }), change(func(im *api.Image) { im.Data = nil })},
		api.ErrConflict: {change(func(im *api.Image) { im.Strides[1] = 2 }), change(func(im *api.Image) { im.Strides = []int{0, 9} }), change(func(im *api.Image) { im.Strides, im.Data = []int{1, 2}, im.Data[:4] }), change(func(im *api.Image) { im.Strides, im.Data = []int{0, 0}, im.Data[:1] })},
	}
}

// Promise P4.2.

func TestCheck(t *testing.T) {
	for want, l := range badImages() {
		for i, im := range l {
			if err := image.Check(im); err != want {
				t.Error("Check", want, i, err)
			}
		}
	}
	full := api.Image{Kind: api.C64, Box: box(-api.MaxCoord, 64, api.MaxCoord-63, 64), Strides: []int{64, 1}, Data: make([]uint64, 4096)}
	for i, im := range []api.Image{
		example(), full, {Kind: api.U8, Box: box(0, 0), Strides: []int{0}}, {Kind: api.U8, Box: box(0, 0), Strides: []int{4096}, Data: []uint64{1, 2}}, {Kind: api.U8, Box: box(0, 1, 5, 1, 7, 1), Strides: []int{0, 4096, 1}, Data: []uint64{1}},
		{Kind: api.U8, Box: box(2, 3, 0, 2), Strides: []int{2, 6}, Data: make([]uint64, 12)}, {Kind: api.U8, Box: box(2, 3, 0, 2), Strides: []int{2, 6}, Data: make([]uint64, 11)}, {Kind: api.U8, Box: box(2, 3, 0, 2), Strides: []int{2, 1}, Data: make([]uint64, 6)},
		{Kind: api.I8, Box: box(0, 64, 0, 0, 0, 64), Strides: []int{0, 0, 0}},
	} {
		if err := image.Check(im); err != api.OK {
			t.Error("Check of a right image", i, err)
		}
	}
	if err := image.Check(api.Image{Kind: api.U8, Box: box(2, 3, 0, 2), Strides: []int{2, 6}, Data: make([]uint64, 10)}); err != api.ErrBounds {
		t.Error("an element too few", err)
	}
}

// TestCheckStrides compares with what the document says of all strides.
func TestCheckStrides(t *testing.T) {
	seen := map[api.Errno]int{}
	for seed := range int64(5 * runs) {
		r := source(seed)
		im := api.Image{Kind: api.U8, Box: randomBox(r, 1+r.Intn(3)), Data: make([]uint64, r.Intn(40))}
		for range im.Box {
			im.Strides = append(im.Strides, r.Intn(8))
		}
		want, taken := api.OK, map[int]bool{}
		for _, p := range pointsOf(im.Box) {
			at := 0
			for i := range p {
				at += (p[i] - im.Box[i].Min) * im.Strides[i]
			}
			if at >= len(im.Data) {
				want = api.ErrBounds
			} else if taken[at] {
				want = api.ErrConflict
			}
			if want != api.OK {
				break
			}
			taken[at] = true
		}
		seen[want]++
		if err := image.Check(im); err != want {
			t.Fatal("Check", seed, im, err, want)
		}
	}
	if len(seen) != 3 {
		t.Error("errors that were seen", seen)
	}
}

func TestMake(t *testing.T) {
	data := []uint64{10, 20, 30, 40, 50, 60}
	for i, x := range []struct {
		kind int
		b    api.Box
		data []uint64
		e    api.Errno
	}{
		{api.U8, box(2, 3, 0, 2), data, api.OK}, {11, nil, nil, api.ErrKind}, {-1, nil, nil, api.ErrKind}, {api.U8, nil, data, api.ErrDims}, {api.U8, box(0, 65), data, api.ErrRange}, {api.U8, box(0, 64, 0, 64, 0, 2), data, api.ErrMany},
		{api.U8, box(2, 3, 0, 2), data[:5], api.ErrShape}, {api.U8, box(2, 3, 0, 2), append(slices.Clone(data), 256), api.ErrShape}, {api.U8, box(2, 3, 0, 2), []uint64{0, 0, 0, 0, 0, 256}, api.ErrForm}, {api.Bool, box(0, 2), []uint64{1, 2}, api.ErrForm}, {api.U8, box(0, 0, 3, 4), nil, api.OK}, {api.U8, box(0, 0), []uint64{0}, api.ErrShape},
	} {
		im, err := image.Make(x.kind, x.b, x.data)
		if err != x.e || err != api.OK && !equal(im, api.Image{}) {
			t.Error("Make", i, im, err)
		}
		if at := -1; err == api.OK && !isDense(im, x.kind, x.b, func([]int) uint64 { at++; return x.data[at] }) {
			t.Error("Make", i, im)
		}
	}
}

func TestAtAndSet(t *testing.T) {
	for seed := range int64(runs) {
		r := source(seed)
		im := randomImage(r)
		kept, values := copied(im), tableOf(im)
		for range 5 {
			p := make([]int, len(im.Box))
			for i, b := range im.Box {
				p[i] = b.Min - 1 + r.Intn(b.Extent+2)
			}
			bits, inside := values[place(p)]
			want, wantErr := api.Value{Kind: im.Kind, Bits: bits}, api.OK
			if !inside {
				want, wantErr = api.Value{}, api.ErrBounds
			}
			if v, err := image.At(im, p); v != want || err != wantErr {
				t.Fatal("At", seed, p, v, err)
			}
			v := api.Value{Kind: im.Kind, Bits: randomBits(r, im.Kind)}
			after, err := image.Set(im, p, v)
			if err != wantErr || !equal(im, kept) {
				t.Fatal("Set", seed, p, err)
			}
			if err != api.OK {
				if !equal(after, api.Image{}) {
					t.Fatal("Set with an error", seed, after)
				}
				continue
			}
			at := 0
			for i := range p {
				at += (p[i] - im.Box[i].Min) * im.Strides[i]
			}
			wanted := copied(im)
			wanted.Data[at] = v.Bits
			if !equal(after, wanted) {
				t.Fatal("Set", seed, p, after)
			}
			after.Data[at]++
			after.Box[0].Min++
			after.Strides[0]++
			if !equal(im, kept) {
				t.Fatal("Set shares memory", seed)
			}
		}
	}
}

func TestAtAndSetErrors(t *testing.T) {
	for want, l := range badImages() {
		for _, im := range l {
			_, e1 := image.At(im, nil)
			_, e2 := image.Set(im, nil, api.Value{Kind: -1})
			same, e3 := image.Same(im, example())
			same2, e4 := image.Same(example(), im)
			if e1 != want || e2 != want || e3 != want || e4 != want || same || same2 {
				t.Error("a wrong image", want, e1, e2, e3, e4)
			}
		}
	}
	right, wrong := api.Value{Kind: api.U8, Bits: 1}, api.Value{Kind: 11}
	for i, x := range []struct {
		p       []int
		v       api.Value
		at, set api.Errno
	}{
		{[]int{3, 1}, right, api.OK, api.OK}, {nil, wrong, api.ErrDims, api.ErrDims}, {[]int{3}, wrong, api.ErrDims, api.ErrDims}, {[]int{3, 1, 0}, right, api.ErrDims, api.ErrDims},
		{[]int{5, 1}, wrong, api.ErrBounds, api.ErrBounds}, {[]int{1, 1}, right, api.ErrBounds, api.ErrBounds}, {[]int{3, -1}, right, api.ErrBounds, api.ErrBounds}, {[]int{3, 2}, right, api.ErrBounds, api.ErrBounds}, {[]int{1<<63 - 1, -1 << 63}, right, api.ErrBounds, api.ErrBounds},
		{[]int{3, 1}, wrong, api.OK, api.ErrKind}, {[]int{3, 1}, api.Value{Kind: api.U8, Bits: 256}, api.OK, api.ErrForm}, {[]int{3, 1}, api.Value{Kind: api.U16, Bits: 1 << 16}, api.OK, api.ErrForm}, {[]int{3, 1}, api.Value{Kind: api.U16, Bits: 1}, api.OK, api.ErrType},
	} {
		_, e1 := image.At(example(), x.p)
		_, e2 := image.Set(example(), x.p, x.v)
		if e1 != x.at || e2 != x.set {
			t.Error("At, Set", i, e1, e2)
		}
	}
	first, second := example(), example()
	first.Kind, second.Box = 11, nil
	if _, err := image.Same(first, second); err != api.ErrKind {
		t.Error("Same: the first image's error comes first", err)
	}
}

func TestSame(t *testing.T) {
	seen := 0
	for seed := range int64(runs) {
		r := source(seed)
		im := randomImage(r)
		dense, _ := image.Dense(im)
		if same, err := image.Same(im, dense); !same || err != api.OK {
			t.Fatal("Same", seed, im, dense)
		}
		other := copied(im)
		switch r.Intn(4) {
		case 0:
			other.Kind = r.Intn(api.Kinds)
		case 1:
			other.Box[r.Intn(len(im.Box))].Min--
		case 2:
			other.Data[r.Intn(len(im.Data))] = randomBits(r, im.Kind)
		case 3:
			other.Box[r.Intn(len(im.Box))].Extent--
		}
		if image.Check(other) != api.OK {
			continue
		}
		want := other.Kind == im.Kind && slices.Equal(other.Box, im.Box)
		a, b := tableOf(im), tableOf(other)
		for p := range a {
			want = want && a[p] == b[p]
		}
		if want {
			seen++
		}
		if same, err := image.Same(im, other); same != want || err != api.OK {
			t.Fatal("Same", seed, im, other, same)
		}
	}
	if seen == 0 {
		t.Error("no changed images with the same values") // elements of no point may differ
	}
	flat := api.Image{Kind: api.U8, Box: box(0, 1, 0, 1), Strides: []int{1, 1}, Data: []uint64{7}}
	line := api.Image{Kind: api.U8, Box: box(0, 1), Strides: []int{1}, Data: []uint64{7}}
	if same, err := image.Same(flat, line); same || err != api.OK {
		t.Error("images with different dimensions", same, err)
	}
}

// TestOwnMemory changes results, and looks at the arguments.
func TestOwnMemory(t *testing.T) {
	spoil := func(im api.Image, err api.Errno) {
		if err != api.OK {
			t.Error(err)
		}
		for i := range im.Data {
			im.Data[i] = 1
		}
		for i := range im.Box {
			im.Box[i], im.Strides[i] = api.Range{Min: 77}, 77
		}
	}
	im, b, data := example(), box(2, 3, 0, 2), []uint64{10, 20, 30, 40, 50, 60}
	spoil(image.Make(api.U8, b, data))
	spoil(image.Crop(im, b))
	spoil(image.Dense(im))
	spoil(image.Slice(im, 0, 3))
	spoil(image.Transpose(im, 0, 0))
	spoil(image.Set(im, []int{2, 0}, api.Value{Kind: api.U8}))
	l, _ := image.Encode(im)
	kept := slices.Clone(l)
	spoil(image.Decode(l))
	if !slices.Equal(b, box(2, 3, 0, 2)) || !slices.Equal(data, example().Data) || !equal(im, example()) || !slices.Equal(l, kept) {
		t.Error("shared memory", b, data, im, l)
	}
}
