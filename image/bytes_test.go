package image_test

import (
	"encoding/binary"
	"hash/fnv"
	"slices"
	"testing"

	"halation/api"
	"halation/image"
)

// encoded returns the bytes of an image in the document's words.
func encoded(im api.Image) []byte {
	sizes := []int{1, 1, 2, 4, 8, 1, 2, 4, 8, 4, 8}
	out := []byte{byte(im.Kind), byte(len(im.Box))}
	for _, r := range im.Box {
		out = binary.LittleEndian.AppendUint32(out, uint32(int32(r.Min)))
		out = binary.LittleEndian.AppendUint16(out, uint16(r.Extent))
	}
	values := tableOf(im)
	for _, p := range pointsOf(im.Box) {
		out = append(out, binary.LittleEndian.AppendUint64(nil, values[place(p)])[:sizes[im.Kind]]...)
	}
	return out
}

// Promise P4.4, and P4.5 of bytes.

func TestBytes(t *testing.T) {
	var kinds [api.Kinds]int
	for seed := range int64(runs) {
		im := randomImage(source(seed))
		kinds[im.Kind]++
		want := encoded(im)
		l, e1 := image.Encode(im)
		sum := fnv.New64a()
		sum.Write(want)
		digest, e2 := image.Digest(im)
		if !slices.Equal(l, want) || e1 != api.OK || digest != sum.Sum64() || e2 != api.OK {
			t.Fatal("Encode, Digest", seed, im, l, digest)
		}
		dense, _ := image.Dense(im)
		kept := slices.Clone(l)
		back, err := image.Decode(l)
		if err != api.OK || !equal(back, dense) || !slices.Equal(l, kept) {
			t.Fatal("Decode", seed, im, back, err)
		}
		for cut := range len(l) {
			if _, err := image.Decode(l[:cut]); err != api.ErrTorn {
				t.Fatal("bytes that end too early", seed, cut, err)
			}
		}
		if out, err := image.Decode(append(l, 0)); err != api.ErrShape || !equal(out, api.Image{}) {
			t.Fatal("a byte that is left", seed, err)
		}
	}
	if slices.Contains(kinds[:], 0) {
		t.Error("a kind without an image", kinds)
	}
}

func TestBytesErrors(t *testing.T) {
	for want, l := range badImages() {
		for _, im := range l {
			bytes, e1 := image.Encode(im)
			digest, e2 := image.Digest(im)
			if e1 != want || e2 != want || len(bytes) > 0 || digest != 0 {
				t.Error("a wrong image", want, e1, e2)
			}
		}
	}
	// start returns the bytes of a kind and a box.
	start := func(kind int, b api.Box) []byte {
		return encoded(api.Image{Kind: kind, Box: b, Strides: make([]int, len(b)), Data: []uint64{0}})[:2+6*len(b)]
	}
	one := start(api.U8, box(0, 1))
	for i, x := range []struct {
		l []byte
		e api.Errno
	}{
		{nil, api.ErrTorn}, {[]byte{11}, api.ErrKind}, {[]byte{255, 9}, api.ErrKind}, {[]byte{10}, api.ErrTorn}, {[]byte{10, 0}, api.ErrDims}, {[]byte{10, 4}, api.ErrDims}, {[]byte{10, 255}, api.ErrDims}, {[]byte{10, 3}, api.ErrTorn},
		{one, api.ErrTorn}, {append(slices.Clone(one), 5), api.OK}, {append(slices.Clone(one), 5, 6), api.ErrShape},
		{start(api.U8, box(0, 65)), api.ErrRange}, {start(api.U8, box(0, 65535)), api.ErrRange}, {start(api.U8, box(api.MaxCoord+1, 0)), api.ErrRange}, {start(api.U8, box(-api.MaxCoord-1, 0)), api.ErrRange}, {start(api.U8, box(api.MaxCoord, 2)), api.ErrRange}, {start(api.U8, box(-1<<31, 0)), api.ErrRange},
		{start(api.U8, box(0, 65, 0, 1))[:13], api.ErrTorn}, {start(api.U8, box(0, 65, 0, 1)), api.ErrRange}, {start(api.U8, box(0, 64, 0, 64, 0, 2)), api.ErrMany}, {start(api.U8, box(0, 64, 0, 64, 0, 2))[:19], api.ErrTorn},
		{start(api.U8, box(0, 64, 0, 0, 0, 64)), api.OK}, {append(start(api.U8, box(0, 0)), 1), api.ErrShape},
		{append(start(api.Bool, box(0, 2)), 2), api.ErrForm}, {append(start(api.Bool, box(0, 3)), 1, 2), api.ErrForm}, {append(start(api.Bool, box(0, 2)), 1), api.ErrTorn}, {append(start(api.Bool, box(0, 2)), 1, 1), api.OK}, {append(start(api.Bool, box(0, 2)), 1, 3, 7), api.ErrForm},
		{append(start(api.F32, box(0, 1)), 0, 0, 0, 128), api.ErrForm}, {append(start(api.F32, box(0, 1)), 0, 0, 0), api.ErrTorn}, {append(start(api.C64, box(0, 1)), 0, 0, 0, 0, 0, 0, 128, 127), api.ErrForm}, {append(start(api.F32, box(0, 2)), 0, 0, 128, 127, 0), api.ErrForm},
	} {
		out, err := image.Decode(x.l)
		if err != x.e || err != api.OK && !equal(out, api.Image{}) {
			t.Error("Decode", i, out, err)
		}
	}
	s, _ := image.Slice(example(), 0, 3)
	l, err := image.Encode(s)
	if !slices.Equal(l, []byte{1, 1, 0, 0, 0, 0, 2, 0, 20, 50}) || err != api.OK {
		t.Error("the document's bytes", l, err)
	}
}

// FuzzDecode finds no bytes that are read but do not come back.
func FuzzDecode(f *testing.F) {
	f.Add([]byte{1, 1, 0, 0, 0, 0, 2, 0, 20, 50})
	f.Fuzz(func(t *testing.T, l []byte) {
		im, err := image.Decode(l)
		if err != api.OK {
			return
		}
		if back, err := image.Encode(im); err != api.OK || !slices.Equal(back, l) {
			t.Fatal(l, im, back, err)
		}
	})
}

func TestAnyBytes(t *testing.T) {
	for seed := range int64(10 * runs) {
		r := source(seed)
		l := encoded(randomImage(r))
		for range 1 + r.Intn(3) {
			l[r.Intn(min(len(l), 16))] = byte(r.Intn(256))
		}
		im, err := image.Decode(l)
		if (err == api.OK) != (image.Check(im) == api.OK) {
			t.Fatal(seed, l, im, err)
		}
		if back, _ := image.Encode(im); err == api.OK && !slices.Equal(back, l) {
			t.Fatal(seed, l, back)
		}
	}
}
