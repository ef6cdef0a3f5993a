package num

import (
	"math"

	"halation/api"
	"halation/list"
)

// Cast returns a value as one of another kind, wrapped.
func Cast(kind int, v api.Value) (api.Value, api.Errno) {
	if e := list.FirstError(CheckKind(kind), CheckValue(v)); e != api.OK {
		return api.Value{}, e
	}
	from, to := known(v.Kind).class, known(kind).class
	switch {
	case kind == v.Kind:
		return v, api.OK
	case from == twofold:
		return api.Value{}, api.ErrType
	case to == logical:
		return boolValue(v.Bits != 0), api.OK // only the number 0 has no bits
	case to == twofold:
		return complexValue(complex(rounded(v), 0)), api.OK
	case to == floating:
		return floatValue(rounded(v)), api.OK
	case from == floating:
		return truncated(kind, floatOf(v)), api.OK
	}
	return wrapped(kind, wideOf(v)), api.OK
}

// Sat returns the value of another kind that is nearest.
func Sat(kind int, v api.Value) (api.Value, api.Errno) {
	if e := list.FirstError(CheckKind(kind), CheckValue(v)); e != api.OK {
		return api.Value{}, e
	}
	switch from := known(v.Kind).class; {
	case !IsInt(kind):
		return api.Value{}, api.ErrType
	case from == floating:
		return truncated(kind, floatOf(v)), api.OK
	case from == integral:
		return clamped(kind, wideOf(v)), api.OK
	}
	return api.Value{}, api.ErrType
}

// rounded returns the number of a Bool, an integer or an F32 as a float.
func rounded(v api.Value) float32 {
	if v.Kind == api.F32 {
		return floatOf(v)
	}
	return wideOf(v).float()
}

// truncated returns a float without its fraction as an integer, or the nearest end. A float64 holds both the float and
// the powers of 2 that limit the kind exactly, so that no comparison is rounded.
func truncated(kind int, x float32) api.Value {
	k := known(kind)
	least, limit := 0.0, math.Ldexp(1, k.width)
	if k.signed {
		limit /= 2
		least = -limit
	}
	switch whole := math.Trunc(float64(x)); {
	case whole < least:
		return api.Value{Kind: kind, Bits: k.ends[0]}
	case whole >= limit:
		return api.Value{Kind: kind, Bits: k.ends[1]}
	case k.signed:
		return wrapped(kind, wideInt(int64(whole)))
	default:
		return wrapped(kind, wide{0, uint64(whole)})
	}
}

// scalar is a right value with its comparisons; one that is compared is of the same kind.
type scalar api.Value

// equal compares the bits, since each number of a kind has just one right value.
func (a scalar) equal(b scalar) bool {
	return a == b
}

func (a scalar) differs(b scalar) bool {
	return a != b
}

func (a scalar) less(b scalar) bool {
	if a.Kind == api.F32 {
		return floatOf(api.Value(a)) < floatOf(api.Value(b))
	}
	return wideOf(api.Value(a)).less(wideOf(api.Value(b)))
}

func (a scalar) atMost(b scalar) bool {
	return !b.less(a)
}

// Compare compares two values.
func Compare(a, b api.Value) (int, api.Errno) {
	if e := list.FirstError(CheckValue(a), CheckValue(b), requireKind(b, a.Kind)); e != api.OK {
		return 0, e
	}
	switch {
	case a.Kind == api.C64:
		return 0, api.ErrType
	case scalar(a).less(scalar(b)):
		return -1, api.OK
	case scalar(b).less(scalar(a)):
		return 1, api.OK
	}
	return 0, api.OK
}

// Select returns the one or the other value.
func Select(c, a, b api.Value) (api.Value, api.Errno) {
	e := list.FirstError(CheckValue(c), CheckValue(a), CheckValue(b), requireKind(c, api.Bool), requireKind(b, a.Kind))
	if e != api.OK {
		return api.Value{}, e
	}
	if c.Bits == 1 {
		return a, api.OK
	}
	return b, api.OK
}
