// Package param has what pipelines and programs ask of their parameters, and of what these are given.
package param

import (
	"math"

	"halation/api"
	"halation/list"
	"halation/num"
)

// bounds has the least and the greatest number that may bound the parameters of a kind. Two equal ones say that there
// are no parameters of the kind.
var bounds = [api.Kinds][2]int64{
	api.Bool: {0, 1},
	api.U8:   {0, math.MaxUint8},
	api.U16:  {0, math.MaxUint16},
	api.U32:  {0, math.MaxUint32},
	api.U64:  {0, math.MaxInt64},
	api.I8:   {math.MinInt8, math.MaxInt8},
	api.I16:  {math.MinInt16, math.MaxInt16},
	api.I32:  {math.MinInt32, math.MaxInt32},
	api.I64:  {math.MinInt64, math.MaxInt64},
	api.F32:  {-1 << 24, 1 << 24},
}

// Error returns the error of a parameter whose name is right.
func Error(x api.Param) api.Errno {
	if num.CheckKind(x.Kind) != api.OK || bounds[x.Kind] == [2]int64{} {
		return api.ErrKind
	}
	ends := bounds[x.Kind]
	isOutside := func(n int64) bool { return n < ends[0] || n > ends[1] }
	return list.FirstError(
		list.ErrorIf(isOutside(x.Low) || isOutside(x.High), api.ErrRange),
		list.ErrorIf(x.Low > x.High, api.ErrOrder))
}

// ValueError returns the error of a value for a right parameter.
func ValueError(v api.Value, x api.Param) api.Errno {
	err := list.FirstError(num.CheckValue(v), list.ErrorIf(v.Kind != x.Kind, api.ErrType))
	if err != api.OK {
		return err
	}
	if v.Kind == api.F32 { // its bounds are so small that they are floats
		f, _ := num.Float(v)
		return list.ErrorIf(f < float32(x.Low) || f > float32(x.High), api.ErrRange)
	}
	n, err := num.Int(v) // a number that is too large for an int64 is above all bounds
	return list.ErrorIf(err != api.OK || n < x.Low || n > x.High, api.ErrRange)
}
