package site_test

import (
	"math"
	"slices"
	"testing"

	"halation/affine"
	"halation/api"
	"halation/lang"
	"halation/site"
)

func form(t *testing.T, s string) affine.Form {
	t.Helper()
	e, at, err := lang.Parse(s, nil)
	if err != api.OK {
		t.Fatal("Parse", s, at, err)
	}
	f, err := affine.Of(e)
	if err != api.OK {
		t.Fatal("Of", s, err)
	}
	return f
}

func TestVariables(t *testing.T) {
	for i := range 200 {
		name := site.Variable(i)
		for _, n := range []int{0, i, i + 1, 200, math.MaxInt / 16} {
			if got, ok := site.Number(name, n); ok != (i < n) || ok && got != i {
				t.Error(name, n, got, ok)
			}
		}
	}
	for _, name := range []string{"", "s", "s00", "s01", "s-1", "s1 ", "t1", "S1", "1", "sa", "s1a", "ss1", "s18446744073709551617", "s99999999999999999999999", "s4294967297", "é1", "sé"} {
		if i, ok := site.Number(name, 1000); ok {
			t.Error(name, i)
		}
	}
	for s, want := range map[string]int{"s0": 0, "s12": 12, "s20": -1, "x": -1, "@s1.i32": -1, "s1 / 2": -1, "s1 * s2": -1} {
		i, ok := site.Loop(form(t, s).Terms[0].Atom, 20)
		if ok != (want >= 0) || ok && i != want {
			t.Error(s, i, ok)
		}
	}
	if _, ok := site.Loop(nil, 20); ok {
		t.Error("an atom without nodes")
	}
}

func TestForms(t *testing.T) {
	for s, want := range map[string]api.Errno{"7": api.OK, "s0 * 2 - s1": api.OK, "s2": api.ErrUnknown, "s0 + s01": api.ErrUnknown, "s0 + x": api.ErrUnknown} {
		if err := site.FormError(form(t, s), 2); err != want {
			t.Error(s, err)
		}
	}
	if err := site.FormError(affine.Form{Const: 1 << 40}, 2); err != api.ErrRange {
		t.Error(err)
	}
	for i, x := range []struct {
		s      string
		values []int
		want   int
	}{{"7", nil, 7}, {"s0 * 2 - s1 + 3", []int{5, 4}, 9}, {"s1 * 2147483647", []int{0, 2}, -2}, {"s0 * 3", []int{math.MaxInt}, -3}, {"s0 * -2147483648", []int{1}, math.MinInt32}} {
		if v := site.Value(form(t, x.s), x.values); v != x.want {
			t.Error(i, v)
		}
	}
}

func TestValues(t *testing.T) {
	for i, x := range []struct {
		values, extents []int
		want            api.Errno
	}{{nil, nil, api.OK}, {[]int{0, 2}, []int{1, 3}, api.OK}, {[]int{0}, []int{1, 3}, api.ErrShape}, {[]int{9, 9}, []int{1}, api.ErrShape}, {[]int{0, 3}, []int{1, 3}, api.ErrRange}, {[]int{-1}, []int{1}, api.ErrRange}, {[]int{0}, []int{0}, api.ErrRange}, {[]int{0}, []int{-5}, api.ErrRange}} {
		if err := site.ValuesError(x.values, x.extents); err != x.want {
			t.Error(i, err)
		}
	}
	if b := site.Box([]int{3, 0}); !slices.Equal(b, api.Box{{Extent: 3}, {Extent: 0}}) {
		t.Error(b)
	}
}
