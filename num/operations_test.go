package num_test

import (
	"math/big"
	"testing"

	"halation/api"
	"halation/num"
)

// Promise P1.2.

// takenKinds returns the letters of the classes that an operation takes (b: Bool, i: integers, f: F32, c: C64), by the document's table.
func takenKinds(op int) string {
	return map[int]string{
		api.EAdd: "ifc", api.ESub: "ifc", api.EMul: "ifc", api.EDiv: "if", api.EMod: "i", api.EMin: "if", api.EMax: "if",
		api.EAnd: "bi", api.EOr: "bi", api.EXor: "bi", api.EShl: "i", api.EShr: "i", api.ESatAdd: "i", api.ESatSub: "i", api.EAvg: "i", api.EDist: "i",
		api.EEq: "bifc", api.ENe: "bifc", api.ELt: "if", api.ELe: "if",
	}[op]
}

func classOf(kind int) byte { return "biiiiiiiifc"[kind] }

func takes(op, kind int) bool {
	for _, c := range []byte(takenKinds(op)) {
		if c == classOf(kind) {
			return true
		}
	}
	return false
}

func resultKind(op, kind int) int {
	switch {
	case op >= api.EEq && op <= api.ELe:
		return api.Bool
	case op == api.EDist && kind >= api.I8:
		return kind - 4
	}
	return kind
}

func TestResult(t *testing.T) {
	for op := -2; op <= api.Ops+1; op++ {
		binary := op >= api.EAdd && op <= api.ELe
		for kind := -2; kind <= api.Kinds+1; kind++ {
			want, wrong := 0, api.ErrKind
			if binary && kind >= 0 && kind < api.Kinds {
				wrong = api.ErrType
				if takes(op, kind) {
					want, wrong = resultKind(op, kind), api.OK
				}
			}
			if k, e := num.Result(op, kind); k != want || e != wrong {
				t.Errorf("Result(%d, %d): %d, %v, want %d, %v", op, kind, k, e, want, wrong)
			}
		}
	}
}

// integerResult returns the result of an operation with integers or Bools, by the document's words.
func integerResult(op int, a, b api.Value) api.Value {
	x, y, n, kind := exact(a), exact(b), new(big.Int), resultKind(op, a.Kind)
	truth := func(holds bool) api.Value {
		if holds {
			return of(api.Bool, 1)
		}
		return of(api.Bool, 0)
	}
	switch op {
	case api.EAdd:
		n.Add(x, y)
	case api.ESub:
		n.Sub(x, y)
	case api.EMul:
		n.Mul(x, y)
	case api.EDiv, api.EMod:
		if y.Sign() != 0 {
			q, r := new(big.Int).DivMod(x, y, new(big.Int)) // the remainder is never negative
			n = map[int]*big.Int{api.EDiv: q, api.EMod: r}[op]
		}
	case api.EMin, api.EMax:
		n = x
		if (op == api.EMin) == (y.Cmp(x) < 0) {
			n = y
		}
	case api.EAnd:
		return of(a.Kind, a.Bits&b.Bits)
	case api.EOr:
		return of(a.Kind, a.Bits|b.Bits)
	case api.EXor:
		return of(a.Kind, a.Bits^b.Bits)
	case api.EShl:
		n.Lsh(x, uint(min(b.Bits, 200)))
	case api.EShr:
		n.Rsh(x, uint(min(b.Bits, 200)))
	case api.ESatAdd:
		return nearest(kind, n.Add(x, y))
	case api.ESatSub:
		return nearest(kind, n.Sub(x, y))
	case api.EAvg:
		n.Rsh(n.Add(n.Add(x, y), big.NewInt(1)), 1)
	case api.EDist:
		n.Abs(n.Sub(x, y))
	case api.EEq:
		return truth(x.Cmp(y) == 0)
	case api.ENe:
		return truth(x.Cmp(y) != 0)
	case api.ELt:
		return truth(x.Cmp(y) < 0)
	case api.ELe:
		return truth(x.Cmp(y) <= 0)
	}
	return modulo(kind, n)
}

func TestApplyIntegers(t *testing.T) {
	for kind := range api.F32 {
		values := samples(kind)
		if kind > api.I8 || kind > api.U8 && kind < api.I8 {
			values = fewer(values, 90)
		}
		for op := api.EAdd; op <= api.ELe; op++ {
			if !takes(op, kind) {
				continue
			}
			for _, a := range values {
				for _, b := range values {
					if v, e := num.Apply(op, a, b); e != api.OK || v != integerResult(op, a, b) {
						t.Fatalf("Apply(%d, %v, %v): %v, %v, want %v", op, a, b, v, e, integerResult(op, a, b))
					}
				}
			}
		}
	}
}

// floatResult returns the bits of the result of an operation with floats.
func floatResult(op int, a, b uint64) uint64 {
	x, y, n := ratOf(a), ratOf(b), new(big.Rat)
	holds := map[int]bool{api.EEq: x.Cmp(y) == 0, api.ENe: x.Cmp(y) != 0, api.ELt: x.Cmp(y) < 0, api.ELe: x.Cmp(y) <= 0}
	switch op {
	case api.EAdd:
		n.Add(x, y)
	case api.ESub:
		n.Sub(x, y)
	case api.EMul:
		n.Mul(x, y)
	case api.EDiv:
		if y.Sign() != 0 {
			n.Quo(x, y)
		}
	case api.EMin, api.EMax:
		n = x
		if (op == api.EMin) == (y.Cmp(x) < 0) {
			n = y
		}
	default:
		if holds[op] {
			return 1
		}
		return 0
	}
	return floatBits(n)
}

func TestApplyFloats(t *testing.T) {
	values := samples(api.F32)
	for _, a := range values {
		for _, b := range values {
			for _, op := range []int{api.EAdd, api.ESub, api.EMul, api.EDiv, api.EMin, api.EMax, api.EEq, api.ENe, api.ELt, api.ELe} {
				want := of(resultKind(op, api.F32), floatResult(op, a.Bits, b.Bits))
				if v, e := num.Apply(op, a, b); e != api.OK || v != want {
					t.Fatalf("Apply(%d, %v, %v): %v, %v, want %v", op, a, b, v, e, want)
				}
			}
		}
	}
}

// complexResult returns the bits of the result of an operation with complex numbers: each product, sum and difference is rounded.
func complexResult(op int, a, b uint64) uint64 {
	re, im := func(x uint64) uint64 { return x & (1<<32 - 1) }, func(x uint64) uint64 { return x >> 32 }
	if op != api.EMul {
		return floatResult(op, re(a), re(b)) | floatResult(op, im(a), im(b))<<32
	}
	product := func(x, y uint64) uint64 { return floatResult(api.EMul, x, y) }
	return floatResult(api.ESub, product(re(a), re(b)), product(im(a), im(b))) | floatResult(api.EAdd, product(re(a), im(b)), product(im(a), re(b)))<<32
}

func TestApplyComplexes(t *testing.T) {
	values := fewer(samples(api.C64), 120)
	for _, a := range values {
		for _, b := range values {
			for _, op := range []int{api.EAdd, api.ESub, api.EMul} {
				want := of(api.C64, complexResult(op, a.Bits, b.Bits))
				if v, e := num.Apply(op, a, b); e != api.OK || v != want {
					t.Fatalf("Apply(%d, %v, %v): %v, %v, want %v", op, a, b, v, e, want)
				}
			}
			equal, e1 := num.Apply(api.EEq, a, b)
			differ, e2 := num.Apply(api.ENe, a, b)
			if e1 != api.OK || e2 != api.OK || equal.Kind != api.Bool || differ.Kind != api.Bool || (equal.Bits == 1) != (a == b) || (differ.Bits == 1) != (a != b) {
				t.Fatal("equality", a, b, equal, differ)
			}
		}
	}
}

func TestApplyExamples(t *testing.T) {
	for i, x := range []struct {
		op         int
		a, b, want string
	}{
		{api.EAdd, "200u8", "100u8", "44u8"}, {api.ESatAdd, "200u8", "100u8", "255u8"}, {api.ESub, "100i8", "-100i8", "-56i8"}, {api.ESatSub, "100i8", "-100i8", "127i8"}, {api.EMul, "16u8", "17u8", "16u8"},
		{api.EDiv, "-7i8", "2i8", "-4i8"}, {api.EMod, "-7i8", "2i8", "1i8"}, {api.EDiv, "-7i8", "-2i8", "4i8"}, {api.EMod, "-7i8", "-2i8", "1i8"}, {api.EDiv, "7i8", "-2i8", "-3i8"}, {api.EMod, "7i8", "-2i8", "1i8"},
		{api.EDiv, "7u8", "0u8", "0u8"}, {api.EMod, "7u8", "0u8", "0u8"}, {api.EDiv, "-128i8", "-1i8", "-128i8"}, {api.EDiv, "-9223372036854775808i64", "-1i64", "-9223372036854775808i64"}, {api.EMod, "-9223372036854775808i64", "-1i64", "0i64"},
		{api.EShl, "1u8", "7u8", "128u8"}, {api.EShl, "1u8", "8u8", "0u8"}, {api.EShr, "-5i8", "1i8", "-3i8"}, {api.EShr, "-5i8", "-1i8", "-1i8"}, {api.EShr, "5i8", "-1i8", "0i8"},
		{api.EAvg, "1u8", "2u8", "2u8"}, {api.EAvg, "-1i8", "-2i8", "-1i8"}, {api.EAvg, "255u8", "255u8", "255u8"}, {api.EDist, "-128i8", "127i8", "255u8"}, {api.EDist, "-9223372036854775808i64", "9223372036854775807i64", "18446744073709551615u64"},
		{api.EAdd, "3p-1f32", "1p-1f32", "1p1f32"}, {api.EMul, "3p126f32", "1p2f32", "16777215p104f32"}, {api.EDiv, "1p0f32", "0p0f32", "0p0f32"}, {api.EMul, "-1p0f32", "0p0f32", "0p0f32"}, {api.EMul, "-1p-149f32", "1p-149f32", "0p0f32"},
		{api.EMul, "c64(1p0,1p0)", "c64(3p0,-1p0)", "c64(1p2,1p1)"}, {api.EMul, "c64(1p0,1p1)", "c64(3p0,-1p0)", "c64(5p0,5p0)"}, {api.EMul, "c64(1p127,1p127)", "c64(1p127,1p127)", "c64(0p0,16777215p104)"},
		{api.EXor, "true", "true", "false"}, {api.EEq, "false", "false", "true"}, {api.ELt, "-1i8", "0i8", "true"},
	} {
		want := parsed(t, x.want)
		if v, e := num.Apply(x.op, parsed(t, x.a), parsed(t, x.b)); e != api.OK || v != want {
			t.Errorf("%d: %s and %s are %v, %v, want %s", i, x.a, x.b, v, e, x.want)
		}
	}
}

func TestApplyErrors(t *testing.T) {
	right := of(api.U8, 3)
	check := func(op int, a, b api.Value, want api.Errno) {
		t.Helper()
		if v, e := num.Apply(op, a, b); v != (api.Value{}) || e != want {
			t.Errorf("Apply(%d, %v, %v): %v, %v, want %v", op, a, b, v, e, want)
		}
	}
	for op := -2; op <= api.Ops+1; op++ {
		if op < api.EAdd || op > api.ELe {
			check(op, right, right, api.ErrKind)
			check(op, of(api.U8, 256), of(api.I8, 0), api.ErrKind)
			continue
		}
		for _, v := range wrongValues {
			check(op, v, right, wrongValue(v))
			check(op, right, v, wrongValue(v))
			check(op, v, of(-1, 0), wrongValue(v))
		}
		for a := range api.Kinds {
			for b := range api.Kinds {
				if a != b || !takes(op, a) {
					check(op, of(a, 0), of(b, 1), api.ErrType)
				}
			}
		}
	}
}

func TestNot(t *testing.T) {
	for kind := range api.Kinds {
		for _, v := range samples(kind) {
			want, wrong := api.Value{}, api.ErrType
			if kind < api.F32 {
				want, wrong = modulo(kind, new(big.Int).Not(exact(v))), api.OK
			}
			if n, e := num.Not(v); n != want || e != wrong {
				t.Fatalf("Not(%v): %v, %v, want %v, %v", v, n, e, want, wrong)
			}
		}
	}
	for _, v := range wrongValues {
		if n, e := num.Not(v); n != (api.Value{}) || e != wrongValue(v) {
			t.Errorf("Not(%v): %v, %v", v, n, e)
		}
	}
}
