package num_test

import (
	"math"
	"math/big"
	"testing"

	"halation/api"
	"halation/num"
)

// Promise P1.1.

func TestKinds(t *testing.T) {
	for kind, x := range []struct {
		name          string
		width         int
		isInt, signed bool
		least, most   uint64
		ends          api.Errno
	}{
		{"bool", 1, false, false, 0, 1, api.OK},
		{"u8", 8, true, false, 0, 0xff, api.OK},
		{"u16", 16, true, false, 0, 0xffff, api.OK},
		{"u32", 32, true, false, 0, 0xffffffff, api.OK},
		{"u64", 64, true, false, 0, 0xffffffffffffffff, api.OK},
		{"i8", 8, true, true, 0x80, 0x7f, api.OK},
		{"i16", 16, true, true, 0x8000, 0x7fff, api.OK},
		{"i32", 32, true, true, 0x80000000, 0x7fffffff, api.OK},
		{"i64", 64, true, true, 0x8000000000000000, 0x7fffffffffffffff, api.OK},
		{"f32", 32, false, false, 0xff7fffff, 0x7f7fffff, api.OK},
		{"c64", 64, false, false, 0, 0, api.ErrType},
	} {
		if e := num.CheckKind(kind); e != api.OK {
			t.Errorf("CheckKind(%d): %v", kind, e)
		}
		if name, e := num.Name(kind); name != x.name || e != api.OK {
			t.Errorf("Name(%d): %q, %v", kind, name, e)
		}
		if k, e := num.Kind(x.name); k != kind || e != api.OK {
			t.Errorf("Kind(%q): %d, %v", x.name, k, e)
		}
		if width, e := num.Width(kind); width != x.width || e != api.OK {
			t.Errorf("Width(%d): %d, %v", kind, width, e)
		}
		if num.IsInt(kind) != x.isInt || num.IsSigned(kind) != x.signed {
			t.Errorf("IsInt, IsSigned of %d: %t, %t", kind, num.IsInt(kind), num.IsSigned(kind))
		}
		least, e1 := num.Least(kind)
		most, e2 := num.Greatest(kind)
		wantLeast, wantMost := of(kind, x.least), of(kind, x.most)
		if x.ends != api.OK {
			wantLeast, wantMost = api.Value{}, api.Value{}
		}
		if least != wantLeast || most != wantMost || e1 != x.ends || e2 != x.ends {
			t.Errorf("Least, Greatest of %d: %v, %v, %v, %v", kind, least, most, e1, e2)
		}
	}
}

func TestNoKinds(t *testing.T) {
	for _, kind := range noKinds {
		name, e1 := num.Name(kind)
		width, e2 := num.Width(kind)
		least, e3 := num.Least(kind)
		most, e4 := num.Greatest(kind)
		wrap, e5 := num.Wrap(kind, 3)
		for i, e := range []api.Errno{num.CheckKind(kind), e1, e2, e3, e4, e5} {
			if e != api.ErrKind {
				t.Errorf("kind %d, function %d: %v", kind, i, e)
			}
		}
		none := api.Value{}
		if name != "" || width != 0 || least != none || most != none || wrap != none || num.IsInt(kind) || num.IsSigned(kind) {
			t.Error("results beside an error", kind, name, width, least, most, wrap)
		}
	}
	for _, name := range []string{"", "Bool", "U8", "u7", "u128", " u8", "u8 ", "int", "f64", "c32", "i", "\xff", "kind"} {
		if kind, e := num.Kind(name); kind != 0 || e != api.ErrUnknown {
			t.Errorf("Kind(%q): %d, %v", name, kind, e)
		}
	}
}

func TestCheckValue(t *testing.T) {
	for _, v := range wrongValues {
		if e := num.CheckValue(v); e != wrongValue(v) {
			t.Errorf("CheckValue(%v): %v, want %v", v, e, wrongValue(v))
		}
	}
	for _, v := range []api.Value{
		of(api.Bool, 0), of(api.Bool, 1), of(api.U8, 255), of(api.I8, 255), of(api.U16, 65535), of(api.I16, 32768), of(api.U32, 1<<32-1), of(api.I32, 1<<31),
		of(api.U64, math.MaxUint64), of(api.I64, 1<<63), of(api.F32, 0), of(api.F32, 1), of(api.F32, 1<<31|1), of(api.F32, 0x7f7fffff), of(api.F32, 0xff7fffff),
		of(api.C64, 0), of(api.C64, 0xff7fffff7f7fffff), of(api.C64, 1<<32), of(api.C64, 1),
	} {
		if e := num.CheckValue(v); e != api.OK {
			t.Errorf("CheckValue(%v): %v", v, e)
		}
	}
}

func TestWrap(t *testing.T) {
	numbers := []int64{0, 1, -1, 2, 3, -2, 300, -300, math.MinInt64, math.MaxInt64, math.MinInt64 + 1}
	for shift := range 63 {
		numbers = append(numbers, 1<<shift, 1<<shift-1, -1<<shift, -1<<shift-1, 5<<shift)
	}
	for _, n := range numbers {
		for kind := range api.Kinds {
			v, e := num.Wrap(kind, n)
			want, wrong := api.Value{}, api.ErrType
			if kind < api.F32 {
				want, wrong = modulo(kind, big.NewInt(n)), api.OK
			}
			if v != want || e != wrong {
				t.Fatalf("Wrap(%d, %d): %v, %v, want %v, %v", kind, n, v, e, want, wrong)
			}
		}
	}
}

func TestInt(t *testing.T) {
	for kind := range api.Kinds {
		for _, v := range samples(kind) {
			n, e := num.Int(v)
			switch {
			case kind >= api.F32:
				if n != 0 || e != api.ErrType {
					t.Fatalf("Int(%v): %d, %v", v, n, e)
				}
			case !exact(v).IsInt64():
				if n != 0 || e != api.ErrLarge {
					t.Fatalf("Int(%v): %d, %v", v, n, e)
				}
			case n != exact(v).Int64() || e != api.OK:
				t.Fatalf("Int(%v): %d, %v", v, n, e)
			}
		}
	}
	for _, v := range wrongValues {
		if n, e := num.Int(v); n != 0 || e != wrongValue(v) {
			t.Errorf("Int(%v): %d, %v", v, n, e)
		}
	}
	if n, e := num.Int(of(api.U64, 1<<63)); n != 0 || e != api.ErrLarge {
		t.Error("Int of 2 to the power of 63", n, e)
	}
	if n, e := num.Int(of(api.U64, 1<<63-1)); n != math.MaxInt64 || e != api.OK {
		t.Error("Int of the greatest int64", n, e)
	}
}
