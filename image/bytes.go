package image

import (
	"halation/api"
	"halation/list"
	"halation/num"
)

const (
	minBytes    = 4
	extentBytes = 2
)

// bytesOf returns how many bytes the elements of a kind have: its name says how many bits they have, but for Bool.
func bytesOf(kind int) int {
	name, _ := num.Name(kind)
	bits := 0
	for _, r := range name {
		if r >= '0' && r <= '9' {
			bits = bits*10 + int(r-'0')
		}
	}
	return max(1, bits/8)
}

// appended returns bytes with a number behind them, its least significant byte first.
func appended(l []byte, n uint64, size int) []byte {
	for i := range size {
		l = append(l, byte(n>>(8*i)))
	}
	return l
}

// Encode returns the bytes of an image.
func Encode(im api.Image) ([]byte, api.Errno) {
	if err := Check(im); err != api.OK {
		return nil, err
	}
	out := []byte{byte(im.Kind), byte(len(im.Box))}
	for _, r := range im.Box {
		out = appended(out, uint64(r.Min), minBytes)
		out = appended(out, uint64(r.Extent), extentBytes)
	}
	size := bytesOf(im.Kind)
	for _, bits := range taken(im, im.Box, itself) {
		out = appended(out, bits, size)
	}
	return out, api.OK
}

// input is bytes that have not been taken.
type input struct{ bytes []byte }

// take takes a byte, if there is one.
func (l *input) take() (byte, bool) {
	if len(l.bytes) == 0 {
		return 0, false
	}
	first := l.bytes[0]
	l.bytes = l.bytes[1:]
	return first, true
}

// number puts bytes together, the least significant one first.
func number(take func() (byte, bool), size int) (uint64, api.Errno) {
	n := uint64(0)
	for i := range size {
		b, ok := take()
		if !ok {
			return 0, api.ErrTorn
		}
		n |= uint64(b) << (8 * i)
	}
	return n, api.OK
}

// reader reads an image, field by field, up to the first error.
type reader struct {
	input
	err api.Errno
}

// field reads a number, which is 0 behind an error.
func (r *reader) field(size int) uint64 {
	if r.err != api.OK {
		return 0
	}
	n, err := number(r.take, size)
	r.err = err
	return n
}

// require keeps an error if there is none before it.
func (r *reader) require(err api.Errno) {
	r.err = list.FirstError(r.err, err)
}

func (r *reader) kind() int {
	kind := int(r.field(1))
	r.require(num.CheckKind(kind))
	return kind
}

func (r *reader) box() api.Box {
	dims := int(r.field(1))
	if r.require(list.ErrorIf(dims < 1 || dims > api.MaxDims, api.ErrDims)); r.err != api.OK {
		return nil
	}
	b := make(api.Box, dims)
	for i := range dims {
		b[i].Min = int(int32(r.field(minBytes)))
		b[i].Extent = int(r.field(extentBytes))
	}
	r.require(CheckBox(b))
	return b
}

func (r *reader) elements(kind int, b api.Box) []uint64 {
	if r.err != api.OK {
		return nil
	}
	size := bytesOf(kind)
	out := make([]uint64, sizeOf(b))
	for i := range out {
		out[i] = r.field(size)
		r.require(dataError(kind, out[i:i+1]))
	}
	return out
}

// Decode returns the image of bytes.
func Decode(l []byte) (api.Image, api.Errno) {
	r := reader{input: input{l}}
	kind := r.kind()
	b := r.box()
	data := r.elements(kind, b)
	if r.require(list.ErrorIf(len(r.bytes) > 0, api.ErrShape)); r.err != api.OK {
		return api.Image{}, r.err
	}
	return dense(kind, b, data), api.OK
}

// Digest returns the digest of an image.
func Digest(im api.Image) (uint64, api.Errno) {
	const start, factor = 14695981039346656037, 1099511628211
	l, err := Encode(im)
	if err != api.OK {
		return 0, err
	}
	digest := uint64(start)
	for _, b := range l {
		digest = (digest ^ uint64(b)) * factor
	}
	return digest, api.OK
}
