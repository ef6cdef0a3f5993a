package num_test

import (
	"math"
	"math/big"
	"math/rand"
	"testing"

	"halation/api"
	"halation/num"
)

// The tests compare package num with the document's definitions, computed here with exact numbers (package math/big).

var (
	intKinds = []int{api.U8, api.U16, api.U32, api.U64, api.I8, api.I16, api.I32, api.I64}
	noKinds  = []int{-1, api.Kinds, math.MinInt, math.MaxInt}
	// wrongValues have, in this order, no kind (four of them), and bits that are not right.
	wrongValues = []api.Value{
		of(-1, 0), of(api.Kinds, 0), of(math.MinInt, 1), of(math.MaxInt, math.MaxUint64),
		of(api.Bool, 2), of(api.U8, 1<<8), of(api.U16, 1<<16), of(api.U32, 1<<32), of(api.I8, 1<<63), of(api.I16, 1<<16), of(api.I32, 1<<40), of(api.F32, 1<<32),
		of(api.F32, 1<<31), of(api.F32, 0x7f800000), of(api.F32, 0xff800000), of(api.F32, 0x7fc00000), of(api.F32, 0xff800001),
		of(api.C64, 1<<31), of(api.C64, 1<<63), of(api.C64, 0x7f800000), of(api.C64, 0x7f800001<<32), of(api.C64, 0xff800000<<32),
	}
)

// of returns a value by its bits.
func of(kind int, bits uint64) api.Value { return api.Value{Kind: kind, Bits: bits} }

// wrongValue returns the error of a wrong value.
func wrongValue(v api.Value) api.Errno {
	if v.Kind < 0 || v.Kind >= api.Kinds {
		return api.ErrKind
	}
	return api.ErrForm
}

// parsed returns the value of a string that is known to have one.
func parsed(t *testing.T, s string) api.Value {
	t.Helper()
	v, e := num.Parse(s)
	if e != api.OK {
		t.Fatalf("%q is no value: %v", s, e)
	}
	return v
}

func widthOf(kind int) uint {
	return []uint{1, 8, 16, 32, 64, 8, 16, 32, 64, 32, 64}[kind]
}

func signedKind(kind int) bool { return kind >= api.I8 && kind <= api.I64 }

// exact returns the number of a Bool or an integer.
func exact(v api.Value) *big.Int {
	n := new(big.Int).SetUint64(v.Bits)
	if width := widthOf(v.Kind); signedKind(v.Kind) && v.Bits>>(width-1) == 1 {
		n.Sub(n, new(big.Int).Lsh(big.NewInt(1), width))
	}
	return n
}

// modulo returns the value of a kind with the bits of an exact integer.
func modulo(kind int, n *big.Int) api.Value {
	m := new(big.Int).Mod(n, new(big.Int).Lsh(big.NewInt(1), widthOf(kind)))
	return of(kind, m.Uint64())
}

// limits returns the least and the greatest number of a kind of integers.
func limits(kind int) (*big.Int, *big.Int) {
	low, high := new(big.Int), new(big.Int).Lsh(big.NewInt(1), widthOf(kind))
	if signedKind(kind) {
		high.Rsh(high, 1)
		low.Neg(high)
	}
	return low, high.Sub(high, big.NewInt(1))
}

// nearest returns the value of a kind that is nearest to an exact integer.
func nearest(kind int, n *big.Int) api.Value {
	low, high := limits(kind)
	switch {
	case n.Cmp(low) < 0:
		n = low
	case n.Cmp(high) > 0:
		n = high
	}
	return modulo(kind, n)
}

// floatBits returns the bits of the value of an exact number: rounded once, finite, without -0.
func floatBits(x *big.Rat) uint64 {
	f, _ := x.Float32()
	switch {
	case f == 0:
		f = 0
	case math.IsInf(float64(f), 1):
		f = math.MaxFloat32
	case math.IsInf(float64(f), -1):
		f = -math.MaxFloat32
	}
	return uint64(math.Float32bits(f))
}

// ratOf returns the exact number of a float by its bits.
func ratOf(bits uint64) *big.Rat {
	return new(big.Rat).SetFloat64(float64(math.Float32frombits(uint32(bits))))
}

// samples returns values of a kind: all of them for up to 8 bits, otherwise those around the ends and the powers of 2, and others.
func samples(kind int) []api.Value {
	seen := map[api.Value]bool{}
	var out []api.Value
	add := func(bits uint64) {
		v := of(kind, bits)
		if width := widthOf(kind); width < 64 {
			v.Bits &= 1<<width - 1
		}
		if num.CheckValue(v) == api.OK && !seen[v] {
			seen[v] = true
			out = append(out, v)
		}
	}
	random := rand.New(rand.NewSource(int64(kind)))
	switch {
	case widthOf(kind) <= 8:
		for bits := range uint64(1) << widthOf(kind) {
			add(bits)
		}
	case kind == api.F32:
		for _, bits := range floatSamples() {
			add(bits)
		}
	case kind == api.C64:
		parts := floatSamples()
		for i, bits := range parts {
			add(bits)
			add(bits << 32)
			add(bits | parts[(i*7+3)%len(parts)]<<32)
		}
	default:
		for shift := range widthOf(kind) {
			for n := range uint64(5) {
				add(1<<shift + n - 2)
				add(-(1 << shift) + n - 2)
			}
		}
	}
	for range 40 {
		add(random.Uint64())
	}
	return out
}

// floatSamples returns bits of floats: ends, subnormal ones, integers with and without a fraction, and their negatives.
func floatSamples() []uint64 {
	var out []uint64
	for _, bits := range []uint64{
		0, 1, 2, 3, 0x007fffff, 0x00800000, 0x00800001, 0x00ffffff, 0x01000000, 0x7f7fffff, 0x7f7ffffe, 0x7f000000, 0x3f800000, 0x3f800001, 0x3f7fffff,
		0x3fc00000, 0x3f000000, 0x40000000, 0x40400000, 0x40200000, 0x3eaaaaab, 0x4b000000, 0x4b7fffff, 0x4b800000, 0x4b800001, 0x4f000000, 0x4effffff, 0x4f7fffff, 0x4f800000,
		0x5effffff, 0x5f000000, 0x5f7fffff, 0x5f800000, 0x42fe0000, 0x42ff0000, 0x43000000, 0x437f0000, 0x437f8000, 0x43800000, 0x46fffe00, 0x47000000, 0x477fff00, 0x47800000, 0x20000000, 0x1f800000,
	} {
		out = append(out, bits, bits|1<<31)
	}
	return out
}

// fewer returns about n of some values, spread over all of them.
func fewer(l []api.Value, n int) []api.Value {
	var out []api.Value
	step := max(1, len(l)/n)
	for i := 0; i < len(l); i += step {
		out = append(out, l[i])
	}
	return append(out, l[len(l)-1])
}
