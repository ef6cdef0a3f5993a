package num

import (
	"math"

	"halation/api"
	"halation/list"
)

// CheckValue returns the first error of a value, or OK.
func CheckValue(v api.Value) api.Errno {
	if e := CheckKind(v.Kind); e != api.OK {
		return e
	}
	k := known(v.Kind)
	right := v.Bits>>k.width == 0
	switch k.class {
	case floating:
		right = right && isRightFloat(uint32(v.Bits))
	case twofold:
		right = isRightFloat(uint32(v.Bits)) && isRightFloat(uint32(v.Bits>>32))
	}
	return list.ErrorIf(!right, api.ErrForm)
}

// isRightFloat reports whether bits are those of a float that is neither infinite nor NaN, and not -0.
func isRightFloat(bits uint32) bool {
	const exponent, negativeZero = 0x7f800000, 1 << 31
	return bits&exponent != exponent && bits != negativeZero
}

// Least returns the least value of a kind.
func Least(kind int) (api.Value, api.Errno) {
	ends, e := endsOf(kind)
	return ends[0], e
}

// Greatest returns the greatest value of a kind.
func Greatest(kind int) (api.Value, api.Errno) {
	ends, e := endsOf(kind)
	return ends[1], e
}

// endsOf returns the least and the greatest value of a kind. Two equal ends say that its values have no order.
func endsOf(kind int) ([2]api.Value, api.Errno) {
	if e := CheckKind(kind); e != api.OK {
		return [2]api.Value{}, e
	}
	ends := known(kind).ends
	if ends == [2]uint64{} {
		return [2]api.Value{}, api.ErrType
	}
	return [2]api.Value{{Kind: kind, Bits: ends[0]}, {Kind: kind, Bits: ends[1]}}, api.OK
}

// Wrap returns an integer, wrapped, as a value.
func Wrap(kind int, n int64) (api.Value, api.Errno) {
	if e := CheckKind(kind); e != api.OK {
		return api.Value{}, e
	}
	if known(kind).class&(logical|integral) == 0 {
		return api.Value{}, api.ErrType
	}
	return wrapped(kind, wideInt(n)), api.OK
}

// Int returns the integer of a value.
func Int(v api.Value) (int64, api.Errno) {
	if e := CheckValue(v); e != api.OK {
		return 0, e
	}
	if known(v.Kind).class&(logical|integral) == 0 {
		return 0, api.ErrType
	}
	n := wideOf(v)
	if wideInt(math.MaxInt64).less(n) {
		return 0, api.ErrLarge
	}
	return int64(n.low), api.OK
}

// Float returns the float of a value.
func Float(v api.Value) (float32, api.Errno) {
	if e := list.FirstError(CheckValue(v), requireKind(v, api.F32)); e != api.OK {
		return 0, e
	}
	return floatOf(v), api.OK
}

// FromFloat returns the value of a float.
func FromFloat(x float32) (api.Value, api.Errno) {
	if x != x {
		return api.Value{}, api.ErrForm
	}
	return floatValue(x), api.OK
}

// Complex returns the complex number of a value.
func Complex(v api.Value) (complex64, api.Errno) {
	if e := list.FirstError(CheckValue(v), requireKind(v, api.C64)); e != api.OK {
		return 0, e
	}
	return complexOf(v), api.OK
}

// FromComplex returns the value of a complex number.
func FromComplex(x complex64) (api.Value, api.Errno) {
	if real(x) != real(x) || imag(x) != imag(x) {
		return api.Value{}, api.ErrForm
	}
	return complexValue(x), api.OK
}

func requireKind(v api.Value, kind int) api.Errno {
	return list.ErrorIf(v.Kind != kind, api.ErrType)
}

// made returns a float without infinities and -0, as all values have it.
func made(x float32) float32 {
	switch {
	case x == 0:
		return 0
	case x > math.MaxFloat32:
		return math.MaxFloat32
	case x < -math.MaxFloat32:
		return -math.MaxFloat32
	}
	return x
}

func floatOf(v api.Value) float32 {
	return math.Float32frombits(uint32(v.Bits))
}

func floatValue(x float32) api.Value {
	return api.Value{Kind: api.F32, Bits: uint64(math.Float32bits(made(x)))}
}

func complexOf(v api.Value) complex64 {
	return complex(math.Float32frombits(uint32(v.Bits)), math.Float32frombits(uint32(v.Bits>>32)))
}

func complexValue(x complex64) api.Value {
	return api.Value{Kind: api.C64, Bits: floatValue(real(x)).Bits | floatValue(imag(x)).Bits<<32}
}
