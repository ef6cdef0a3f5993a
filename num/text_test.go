package num_test

import (
	"math/big"
	"strconv"
	"strings"
	"testing"

	"halation/api"
	"halation/num"
)

// Promise P1.4.

// powerText returns the string of a float, found by dividing its exact number by 2 as long as it is even.
func powerText(bits uint64) string {
	x, e := ratOf(bits), 0
	if x.Sign() == 0 {
		return "0p0"
	}
	two := big.NewRat(2, 1)
	for !x.IsInt() {
		x.Mul(x, two)
		e--
	}
	for x.Num().Bit(0) == 0 {
		x.Quo(x, two)
		e++
	}
	return x.Num().String() + "p" + strconv.Itoa(e)
}

// textOf returns the string of a value, by the document's words.
func textOf(v api.Value) string {
	switch v.Kind {
	case api.Bool:
		return []string{"false", "true"}[v.Bits]
	case api.F32:
		return powerText(v.Bits) + "f32"
	case api.C64:
		return "c64(" + powerText(v.Bits&(1<<32-1)) + "," + powerText(v.Bits>>32) + ")"
	}
	name, _ := num.Name(v.Kind)
	return exact(v).String() + name
}

func TestText(t *testing.T) {
	for kind := range api.Kinds {
		for _, v := range samples(kind) {
			s, e := num.Text(v)
			if s != textOf(v) || e != api.OK {
				t.Fatalf("Text(%v): %q, %v, want %q", v, s, e, textOf(v))
			}
			if w, e := num.Parse(s); w != v || e != api.OK {
				t.Fatalf("Parse(%q): %v, %v, want %v", s, w, e, v)
			}
		}
	}
	for _, v := range wrongValues {
		if s, e := num.Text(v); s != "" || e != wrongValue(v) {
			t.Errorf("Text(%v): %q, %v", v, s, e)
		}
	}
}

func TestTextExamples(t *testing.T) {
	for s, v := range map[string]api.Value{
		"true": of(api.Bool, 1), "false": of(api.Bool, 0), "5u8": of(api.U8, 5), "0i64": of(api.I64, 0), "-128i8": of(api.I8, 128), "65535u16": of(api.U16, 65535),
		"18446744073709551615u64": of(api.U64, 1<<64-1), "-9223372036854775808i64": of(api.I64, 1<<63), "3p-1f32": of(api.F32, 0x3fc00000), "0p0f32": of(api.F32, 0),
		"16777215p104f32": of(api.F32, 0x7f7fffff), "-16777215p104f32": of(api.F32, 0xff7fffff), "1p-149f32": of(api.F32, 1), "-1p-126f32": of(api.F32, 0x80800000), "1p127f32": of(api.F32, 0x7f000000),
		"8388607p-149f32": of(api.F32, 0x007fffff), "c64(1p0,1p1)": of(api.C64, 0x3f800000|0x40000000<<32), "c64(-3p-1,0p0)": of(api.C64, 0xbfc00000), "c64(-16777215p104,-16777215p-149)": of(api.C64, 0xff7fffff|0x80ffffff<<32|1<<63),
	} {
		text, e := num.Text(v)
		w, f := num.Parse(s)
		if text != s || w != v || e != api.OK || f != api.OK {
			t.Errorf("%s: %q, %v, %v, %v", s, text, w, e, f)
		}
	}
}

func TestParseErrors(t *testing.T) {
	for want, l := range map[api.Errno][]string{
		api.ErrLong: {strings.Repeat("9", 65), strings.Repeat("x", 1000), "c64(1p0,1p0)" + strings.Repeat(" ", 53)},
		api.ErrSyntax: {
			"", "-", "5", "u8", "-u8", "05u8", "00u8", "-0i8", "-05i8", "-00i8", "--5i8", "+5u8", "5 u8", " 5u8", "5u8 ", "5u7", "5U8", "5bool", "1bool", "5f32", "5c64", "5u8u8", "0x5u8", "5_0u8",
			"123456789012345678901u8", "123456789012345678901u64", "-100000000000000000000" + "0i64", "True", "TRUE", "true ", "tru", "truebool", "٥u8", "5\xff",
			"p0f32", "1pf32", "1p", "1p0", "1p0f", "1P0f32", "1p00f32", "1p01f32", "1p-0f32", "1p--1f32", "1p+1f32", "01p0f32", "-0p0f32", "00p0f32", "0p-0f32", "123456789p0f32", "1p1234f32", "1p-1234f32", "1p0u8", "1p0c64", "1.5f32", "1e5f32", "3p-1", "1p0f32f32", "1p 0f32",
			"c64", "c64(", "c64()", "c64(1p0)", "c64(1p0,)", "c64(,1p0)", "c64(1p0,1p0", "c64(1p0,1p0))", "c64(1p0,1p0,1p0)", "c64(1p0, 1p0)", "c64(1p0f32,1p0f32)", "c64(1,1)", "c64(-0p0,1p0)", "c64(1p0,01p0)", "c64(2p0,1)", "c64(1,2p0)", "c64(2p0,1p0", "C64(1p0,1p0)", "c64(123456789p0,1p0)",
			strings.Repeat("9", 64),
		},
		api.ErrRange: {
			"256u8", "-1u8", "-5u8", "65536u16", "4294967296u32", "18446744073709551616u64", "99999999999999999999u64", "99999999999999999999u8", "-1u64", "128i8", "-129i8", "32768i16", "-32769i16", "2147483648i32", "-2147483649i32", "9223372036854775808i64", "-9223372036854775809i64", "-99999999999999999999i64",
			"2p0f32", "10p0f32", "-2p0f32", "0p1f32", "0p-1f32", "0p999f32", "1p128f32", "-1p128f32", "3p127f32", "16777215p105f32", "16777217p0f32", "16777217p104f32", "99999999p0f32", "1p-150f32", "3p-150f32", "-1p-150f32", "99999999p999f32", "99999999p-999f32", "1p999f32", "1p-999f32", "-99999999p-999f32", "33554431p-149f32",
			"c64(2p0,1p0)", "c64(1p0,2p0)", "c64(0p1,0p0)", "c64(0p0,1p128)", "c64(1p-150,0p0)", "c64(-16777217p0,-16777217p0)",
		},
	} {
		for _, s := range l {
			if v, e := num.Parse(s); v != (api.Value{}) || e != want {
				t.Errorf("Parse(%q): %v, %v, want %v", s, v, e, want)
			}
		}
	}
}

// TestParsePowers compares Parse with the exact number of each mantissa and exponent.
func TestParsePowers(t *testing.T) {
	for _, m := range []int64{1, 2, 3, 5, 255, 256, 8388607, 8388608, 8388609, 16777213, 16777215, 16777216, 16777217, 16777219, 33554431, 99999999} {
		for e := -160; e <= 135; e++ {
			s := strconv.FormatInt(m, 10) + "p" + strconv.Itoa(e) + "f32"
			x := new(big.Rat).SetInt64(m)
			power := new(big.Rat).SetInt(new(big.Int).Lsh(big.NewInt(1), uint(max(e, -e))))
			if e < 0 {
				power.Inv(power)
			}
			x.Mul(x, power)
			want, wrong := api.Value{}, api.ErrRange
			if m&1 == 1 && ratOf(floatBits(x)).Cmp(x) == 0 {
				want, wrong = of(api.F32, floatBits(x)), api.OK
			}
			if v, e := num.Parse(s); v != want || e != wrong {
				t.Fatalf("Parse(%q): %v, %v, want %v, %v", s, v, e, want, wrong)
			}
		}
	}
}
