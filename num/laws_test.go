package num_test

import (
	"math"
	"testing"

	"halation/api"
	"halation/num"
)

// Promise P1.5.

// applied returns a result, which has to be a right value.
func applied(t *testing.T, op int, a, b api.Value) api.Value {
	t.Helper()
	v, e := num.Apply(op, a, b)
	if e != api.OK || num.CheckValue(v) != api.OK {
		t.Fatalf("Apply(%d, %v, %v): %v, %v", op, a, b, v, e)
	}
	return v
}

func casted(t *testing.T, kind int, v api.Value) api.Value {
	t.Helper()
	c, e := num.Cast(kind, v)
	if e != api.OK || num.CheckValue(c) != api.OK {
		t.Fatalf("Cast(%d, %v): %v, %v", kind, v, c, e)
	}
	return c
}

func TestResultsAreRight(t *testing.T) {
	for kind := range api.Kinds {
		l := fewer(samples(kind), 40)
		for _, a := range l {
			for _, b := range l {
				for op := api.EAdd; op <= api.ELe; op++ {
					want, e := num.Result(op, kind)
					if v, f := num.Apply(op, a, b); e != f || e == api.OK && (v.Kind != want || num.CheckValue(v) != api.OK) {
						t.Fatal("Apply", op, a, b, v, f)
					}
				}
			}
			for to := range api.Kinds {
				c, e := num.Cast(to, a)
				s, f := num.Sat(to, a)
				if e == api.OK && (c.Kind != to || num.CheckValue(c) != api.OK) || f == api.OK && (s.Kind != to || num.CheckValue(s) != api.OK) {
					t.Fatal("Cast, Sat", to, a, c, s)
				}
			}
			if n, e := num.Not(a); e == api.OK && (n.Kind != kind || num.CheckValue(n) != api.OK) {
				t.Fatal("Not", a, n)
			}
		}
	}
}

func TestIntegersAsRing(t *testing.T) {
	for _, kind := range intKinds {
		l := fewer(samples(kind), 24)
		for _, a := range l {
			for _, b := range l {
				for _, op := range []int{api.EAdd, api.EMul} {
					ab := applied(t, op, a, b)
					if ab != applied(t, op, b, a) {
						t.Fatal("the order of two", op, a, b)
					}
					for _, c := range l {
						if applied(t, op, ab, c) != applied(t, op, a, applied(t, op, b, c)) {
							t.Fatal("the order of three", op, a, b, c)
						}
					}
				}
				for _, to := range intKinds { // wrapping goes with sums, differences and products where it leaves bits out
					if widthOf(to) > widthOf(kind) {
						continue
					}
					for _, op := range []int{api.EAdd, api.ESub, api.EMul} {
						if casted(t, to, applied(t, op, a, b)) != applied(t, op, casted(t, to, a), casted(t, to, b)) {
							t.Fatal("wrapping", to, op, a, b)
						}
					}
				}
			}
		}
	}
}

func TestDivisionGivesNumberBack(t *testing.T) {
	for _, kind := range intKinds {
		l := fewer(samples(kind), 100)
		for _, a := range l {
			for _, b := range l {
				if b.Bits == 0 {
					continue
				}
				q, r := applied(t, api.EDiv, a, b), applied(t, api.EMod, a, b)
				if applied(t, api.EAdd, applied(t, api.EMul, q, b), r) != a {
					t.Fatal("the number does not come back", a, b, q, r)
				}
				if exact(r).Sign() < 0 || exact(r).CmpAbs(exact(b)) >= 0 {
					t.Fatal("the remainder is not in its range", a, b, r)
				}
			}
		}
	}
}

func TestSaturatedAgrees(t *testing.T) {
	for _, kind := range intKinds {
		low, high := limits(kind)
		l := fewer(samples(kind), 60)
		for _, a := range l {
			for _, b := range l {
				for saturated, wrapping := range map[int]int{api.ESatAdd: api.EAdd, api.ESatSub: api.ESub} {
					s, w := applied(t, saturated, a, b), applied(t, wrapping, a, b)
					n := exact(a)
					if wrapping == api.EAdd {
						n.Add(n, exact(b))
					} else {
						n.Sub(n, exact(b))
					}
					if held := n.Cmp(low) >= 0 && n.Cmp(high) <= 0; held != (s == w) {
						t.Fatal("saturated and wrapped", saturated, a, b, s, w)
					}
				}
			}
		}
	}
}

func TestCastsBack(t *testing.T) {
	for from := range api.C64 {
		for to := range api.Kinds {
			wider := from == api.Bool && to < api.F32 || from != api.F32 && to < api.F32 && widthOf(to) >= widthOf(from) || to == api.F32 && widthOf(from) < 24
			if to == api.C64 || !wider {
				continue
			}
			for _, v := range samples(from) {
				if back := casted(t, from, casted(t, to, v)); back != v {
					t.Fatal("a cast to a wider kind and back", from, to, v, back)
				}
			}
		}
	}
}

func TestSatKeepsOrder(t *testing.T) {
	for from := api.U8; from <= api.F32; from++ {
		l := fewer(samples(from), 70)
		for _, to := range intKinds {
			for _, a := range l {
				for _, b := range l {
					order, _ := num.Compare(a, b)
					x, e := num.Sat(to, a)
					y, f := num.Sat(to, b)
					after, g := num.Compare(x, y)
					if e != api.OK || f != api.OK || g != api.OK || order < 0 && after > 0 || order > 0 && after < 0 || order == 0 && after != 0 {
						t.Fatal("Sat leaves the order", to, a, b, x, y)
					}
				}
			}
		}
	}
}

func TestStringsComeBack(t *testing.T) {
	for kind := range api.Kinds {
		l := samples(kind)
		if kind == api.U16 || kind == api.I16 { // all of them
			l = nil
			for bits := range uint64(1 << 16) {
				l = append(l, of(kind, bits))
			}
		}
		seen := map[string]bool{}
		for _, v := range l {
			s, e := num.Text(v)
			w, f := num.Parse(s)
			if e != api.OK || f != api.OK || w != v || seen[s] {
				t.Fatal("a value and its string", v, s, w, e, f, seen[s])
			}
			seen[s] = true
		}
	}
	for bits := uint64(0); bits < 1<<32; bits += 104729 {
		v := of(api.F32, bits)
		if num.CheckValue(v) != api.OK {
			continue
		}
		s, _ := num.Text(v)
		if w, e := num.Parse(s); w != v || e != api.OK {
			t.Fatal("a float and its string", v, s, w, e)
		}
	}
	pieces := []string{"", "-", "0", "1", "5", "12", "255", "p", "p0", "p-1", "f32", "u8", "i8", "i64", "c64(", ",", ")", "true", "false"}
	for _, a := range pieces { // what is parsed is printed as it was
		for _, b := range pieces {
			for _, c := range pieces {
				for _, d := range pieces {
					s := a + b + c + d
					v, e := num.Parse(s)
					if text, f := num.Text(v); e == api.OK && (f != api.OK || text != s) {
						t.Fatal("a string and its value", s, v, text)
					}
				}
			}
		}
	}
}

// TestNothingPanics is promise P1 of the document for this layer.
func TestNothingPanics(t *testing.T) {
	var values []api.Value
	for kind := -2; kind <= api.Kinds+1; kind++ {
		for _, bits := range []uint64{0, 1, 255, 1 << 31, 1 << 63, math.MaxUint64, 0x7fc00000} {
			values = append(values, of(kind, bits))
		}
	}
	for _, a := range values {
		num.Not(a)
		num.Int(a)
		num.Text(a)
		num.Float(a)
		num.Complex(a)
		for _, b := range values {
			for op := -1; op <= api.Ops; op++ {
				num.Apply(op, a, b)
			}
			num.Compare(a, b)
			num.Select(a, b, a)
			num.Cast(a.Kind, b)
			num.Sat(a.Kind, b)
		}
	}
}
