package num_test

import (
	"math"
	"math/big"
	"testing"

	"halation/api"
	"halation/num"
)

// Promise P1.3.

// whole returns a float without its fraction.
func whole(v api.Value) *big.Int {
	x := ratOf(v.Bits)
	return new(big.Int).Quo(x.Num(), x.Denom())
}

// castTo returns the result of Cast, by the document's words.
func castTo(kind int, v api.Value) (api.Value, api.Errno) {
	number := func() uint64 {
		if v.Kind == api.F32 {
			return v.Bits
		}
		return floatBits(new(big.Rat).SetInt(exact(v)))
	}
	switch {
	case v.Kind == api.C64 && kind != api.C64:
		return api.Value{}, api.ErrType
	case v.Kind == kind:
		return v, api.OK
	case kind == api.F32, kind == api.C64:
		return of(kind, number()), api.OK
	case kind == api.Bool && v.Bits != 0:
		return of(kind, 1), api.OK
	case kind == api.Bool:
		return of(kind, 0), api.OK
	case v.Kind == api.F32:
		return nearest(kind, whole(v)), api.OK
	}
	return modulo(kind, exact(v)), api.OK
}

// satTo returns the result of Sat, by the document's words.
func satTo(kind int, v api.Value) (api.Value, api.Errno) {
	switch {
	case kind == api.Bool, kind >= api.F32, v.Kind == api.Bool, v.Kind == api.C64:
		return api.Value{}, api.ErrType
	case v.Kind == api.F32:
		return nearest(kind, whole(v)), api.OK
	}
	return nearest(kind, exact(v)), api.OK
}

func TestCastAndSat(t *testing.T) {
	for from := range api.Kinds {
		for _, v := range samples(from) {
			for to := range api.Kinds {
				want, wrong := castTo(to, v)
				if c, e := num.Cast(to, v); c != want || e != wrong {
					t.Fatalf("Cast(%d, %v): %v, %v, want %v, %v", to, v, c, e, want, wrong)
				}
				want, wrong = satTo(to, v)
				if s, e := num.Sat(to, v); s != want || e != wrong {
					t.Fatalf("Sat(%d, %v): %v, %v, want %v, %v", to, v, s, e, want, wrong)
				}
			}
		}
	}
}

func TestCastExamples(t *testing.T) {
	for i, x := range []struct {
		from      string
		kind      int
		cast, sat string
	}{
		{"300i16", api.U8, "44u8", "255u8"}, {"-1i8", api.U16, "65535u16", "0u16"},
		{"-3p-1f32", api.I8, "-1i8", "-1i8"}, {"-3p-1f32", api.U8, "0u8", "0u8"}, {"-3p-1f32", api.Bool, "true", ""},
		{"16777217u32", api.F32, "1p24f32", ""}, {"2u8", api.C64, "c64(1p1,0p0)", ""}, {"true", api.I64, "1i64", ""}, {"256u16", api.Bool, "true", ""},
		{"16777215p104f32", api.U64, "18446744073709551615u64", "18446744073709551615u64"}, {"-16777215p104f32", api.I64, "-9223372036854775808i64", "-9223372036854775808i64"},
		{"-1p-1f32", api.U8, "0u8", "0u8"}, {"18446744073709551615u64", api.F32, "1p64f32", ""},
	} {
		c, e := num.Cast(x.kind, parsed(t, x.from))
		if c != parsed(t, x.cast) || e != api.OK {
			t.Errorf("%d: cast %s is %v, %v, want %s", i, x.from, c, e, x.cast)
		}
		s, e := num.Sat(x.kind, parsed(t, x.from))
		switch {
		case x.sat == "" && (s != api.Value{} || e != api.ErrType):
			t.Errorf("%d: %s saturated is %v, %v, want ErrType", i, x.from, s, e)
		case x.sat != "" && (s != parsed(t, x.sat) || e != api.OK):
			t.Errorf("%d: %s saturated is %v, %v, want %s", i, x.from, s, e, x.sat)
		}
	}
}

func TestConversionErrors(t *testing.T) {
	right := of(api.U8, 3)
	for _, convert := range []func(int, api.Value) (api.Value, api.Errno){num.Cast, num.Sat} {
		check := func(kind int, v api.Value, want api.Errno) {
			t.Helper()
			if c, e := convert(kind, v); c != (api.Value{}) || e != want {
				t.Errorf("%d, %v: %v, %v, want %v", kind, v, c, e, want)
			}
		}
		for _, kind := range noKinds {
			check(kind, right, api.ErrKind)
			check(kind, of(api.U8, 256), api.ErrKind)
		}
		for _, v := range wrongValues {
			check(api.U8, v, wrongValue(v))
			check(api.F32, v, wrongValue(v))
			check(v.Kind, v, wrongValue(v))
		}
	}
}

func TestCompare(t *testing.T) {
	for kind := range api.Kinds {
		values := fewer(samples(kind), 120)
		for _, a := range values {
			for _, b := range values {
				want, wrong := 0, api.OK
				switch {
				case kind == api.C64:
					wrong = api.ErrType
				case kind == api.F32:
					want = ratOf(a.Bits).Cmp(ratOf(b.Bits))
				default:
					want = exact(a).Cmp(exact(b))
				}
				if n, e := num.Compare(a, b); n != want || e != wrong {
					t.Fatalf("Compare(%v, %v): %d, %v, want %d, %v", a, b, n, e, want, wrong)
				}
			}
		}
	}
	for a := range api.Kinds {
		for b := range api.Kinds {
			if n, e := num.Compare(of(a, 1), of(b, 0)); a != b && (n != 0 || e != api.ErrType) {
				t.Error("Compare of two kinds", a, b, n, e)
			}
		}
	}
	for _, v := range wrongValues {
		n, e := num.Compare(v, of(-1, 0))
		m, f := num.Compare(of(api.C64, 0), v)
		if n != 0 || m != 0 || e != wrongValue(v) || f != wrongValue(v) {
			t.Error("Compare of wrong values", v, n, m, e, f)
		}
	}
}

func TestSelect(t *testing.T) {
	yes, no := of(api.Bool, 1), of(api.Bool, 0)
	for kind := range api.Kinds {
		l := fewer(samples(kind), 12)
		for i, a := range l {
			b := l[len(l)-1-i]
			x, e := num.Select(yes, a, b)
			y, f := num.Select(no, a, b)
			if x != a || y != b || e != api.OK || f != api.OK {
				t.Error("Select", a, b, x, y, e, f)
			}
		}
	}
	check := func(c, a, b api.Value, want api.Errno) {
		t.Helper()
		if v, e := num.Select(c, a, b); v != (api.Value{}) || e != want {
			t.Errorf("Select(%v, %v, %v): %v, %v, want %v", c, a, b, v, e, want)
		}
	}
	for _, v := range wrongValues {
		check(v, of(-1, 0), of(-1, 0), wrongValue(v))
		check(of(api.U8, 1), v, of(-1, 0), wrongValue(v))
		check(of(api.U8, 1), of(api.U8, 1), v, wrongValue(v))
	}
	for kind := range api.Kinds {
		if kind != api.Bool {
			check(of(kind, 1), of(api.U8, 1), of(api.U8, 2), api.ErrType)
			check(yes, of(kind, 1), no, api.ErrType)
			check(no, no, of(kind, 1), api.ErrType)
		}
	}
}

func TestFloats(t *testing.T) {
	for _, v := range samples(api.F32) {
		x, e := num.Float(v)
		w, f := num.FromFloat(x)
		if math.Float32bits(x) != uint32(v.Bits) || w != v || e != api.OK || f != api.OK {
			t.Error("Float, FromFloat", v, x, w, e, f)
		}
	}
	infinite, zero := float32(math.Inf(1)), float32(0)
	for i, x := range []struct {
		f    float32
		bits uint64
	}{{infinite, 0x7f7fffff}, {-infinite, 0xff7fffff}, {-zero, 0}, {math.Float32frombits(1 << 31), 0}, {math.SmallestNonzeroFloat32, 1}, {1.5, 0x3fc00000}} {
		if v, e := num.FromFloat(x.f); v != of(api.F32, x.bits) || e != api.OK {
			t.Error("FromFloat", i, v, e)
		}
	}
	for _, bits := range []uint32{0x7fc00000, 0x7f800001, 0xffc00001} {
		if v, e := num.FromFloat(math.Float32frombits(bits)); v != (api.Value{}) || e != api.ErrForm {
			t.Error("FromFloat of NaN", v, e)
		}
	}
	for kind := range api.Kinds {
		if x, e := num.Float(of(kind, 1)); kind != api.F32 && (x != 0 || e != api.ErrType) {
			t.Error("Float of another kind", kind, x, e)
		}
		if x, e := num.Complex(of(kind, 1)); kind != api.C64 && (x != 0 || e != api.ErrType) {
			t.Error("Complex of another kind", kind, x, e)
		}
	}
	for _, v := range wrongValues {
		x, e := num.Float(v)
		z, f := num.Complex(v)
		if x != 0 || z != 0 || e != wrongValue(v) || f != wrongValue(v) {
			t.Error("Float, Complex of wrong values", v, x, z, e, f)
		}
	}
}

func TestComplexes(t *testing.T) {
	for _, v := range samples(api.C64) {
		x, e := num.Complex(v)
		w, f := num.FromComplex(x)
		if math.Float32bits(real(x)) != uint32(v.Bits) || math.Float32bits(imag(x)) != uint32(v.Bits>>32) || w != v || e != api.OK || f != api.OK {
			t.Error("Complex, FromComplex", v, x, w, e, f)
		}
	}
	infinite, nan, zero := float32(math.Inf(1)), float32(math.NaN()), math.Float32frombits(1<<31)
	if v, e := num.FromComplex(complex(infinite, zero)); v != of(api.C64, 0x7f7fffff) || e != api.OK {
		t.Error("an infinite part", v, e)
	}
	if v, e := num.FromComplex(complex(zero, -infinite)); v != of(api.C64, 0xff7fffff<<32) || e != api.OK {
		t.Error("an infinite part", v, e)
	}
	for _, x := range []complex64{complex(nan, 1), complex(1, nan), complex(nan, nan), complex(infinite, nan), complex(nan, infinite)} {
		if v, e := num.FromComplex(x); v != (api.Value{}) || e != api.ErrForm {
			t.Error("FromComplex of NaN", x, v, e)
		}
	}
}
