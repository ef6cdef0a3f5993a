package param_test

import (
	"math"
	"testing"

	"halation/api"
	"halation/num"
	"halation/param"
)

func TestError(t *testing.T) {
	for i, x := range []struct {
		kind      int
		low, high int64
		err       api.Errno
	}{
		{api.Bool, 0, 1, api.OK}, {api.Bool, 0, 2, api.ErrRange}, {api.Bool, -1, 1, api.ErrRange},
		{api.U8, 0, 255, api.OK}, {api.U8, 0, 256, api.ErrRange}, {api.U8, 3, 2, api.ErrOrder}, {api.U8, 300, 2, api.ErrRange},
		{api.U64, 0, math.MaxInt64, api.OK}, {api.U64, -1, 0, api.ErrRange},
		{api.I8, -128, 127, api.OK}, {api.I8, -129, 0, api.ErrRange}, {api.I8, 0, 128, api.ErrRange},
		{api.I64, math.MinInt64, math.MaxInt64, api.OK},
		{api.F32, -1 << 24, 1 << 24, api.OK}, {api.F32, -1<<24 - 1, 0, api.ErrRange}, {api.F32, 0, 1<<24 + 1, api.ErrRange},
		{api.C64, 0, 0, api.ErrKind}, {-1, 0, 0, api.ErrKind}, {api.Kinds, 0, 0, api.ErrKind},
	} {
		if err := param.Error(api.Param{Name: "x", Kind: x.kind, Low: x.low, High: x.high}); err != x.err {
			t.Error(i, x, err)
		}
	}
}

func TestValueError(t *testing.T) {
	for i, x := range []struct {
		value     string
		kind      int
		low, high int64
		err       api.Errno
	}{
		{"5u8", api.U8, 5, 5, api.OK}, {"4u8", api.U8, 5, 9, api.ErrRange}, {"10u8", api.U8, 5, 9, api.ErrRange}, {"5i8", api.U8, 0, 9, api.ErrType},
		{"-3i64", api.I64, -3, 0, api.OK}, {"-4i64", api.I64, -3, 0, api.ErrRange},
		{"18446744073709551615u64", api.U64, 0, math.MaxInt64, api.ErrRange}, {"9223372036854775807u64", api.U64, 0, math.MaxInt64, api.OK},
		{"true", api.Bool, 0, 0, api.ErrRange}, {"true", api.Bool, 1, 1, api.OK},
		{"3p-1f32", api.F32, 1, 2, api.OK}, {"5p-1f32", api.F32, 1, 2, api.ErrRange}, {"1p-1f32", api.F32, 1, 2, api.ErrRange},
	} {
		v, _ := num.Parse(x.value)
		if err := param.ValueError(v, api.Param{Name: "x", Kind: x.kind, Low: x.low, High: x.high}); err != x.err {
			t.Error(i, x, err)
		}
	}
	if err := param.ValueError(api.Value{Kind: api.U8, Bits: 256}, api.Param{Kind: api.U8, High: 255}); err != api.ErrForm {
		t.Error("a value that is not right", err)
	}
}
