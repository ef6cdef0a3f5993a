package span_test

import (
	"math"
	"math/rand"
	"slices"
	"testing"

	"halation/api"
	"halation/expr"
	"halation/span"
)

// anyInt returns a number that is often not right.
func anyInt(r *rand.Rand) int {
	return []int{-1, 0, 1, 2, 3, r.Intn(300), api.Ops, math.MaxInt, math.MinInt, 1 << 40, 1<<40 + 1, -r.Intn(9)}[r.Intn(12)]
}

// spoilt returns an expression with some fields changed.
func spoilt(r *rand.Rand, e api.Expr) api.Expr {
	out := slices.Clone(e)
	for range 1 + r.Intn(3) {
		if len(out) == 0 {
			return out
		}
		n := &out[r.Intn(len(out))]
		switch r.Intn(8) {
		case 0:
			n.Op = anyInt(r)
		case 1:
			n.Kind = anyInt(r)
		case 2:
			n.Lanes = anyInt(r)
		case 3:
			n.Name = []string{"", "9", "x", "a b"}[r.Intn(4)]
		case 4:
			n.Bits = uint64(anyInt(r))
		case 5:
			n.Picks = append(slices.Clone(n.Picks), anyInt(r))
		case 6:
			n.Kids = append(slices.Clone(n.Kids), anyInt(r))
		case 7:
			out = out[:r.Intn(len(out)+1)]
		}
	}
	return out
}

// TestAnyArguments asks for nothing but the errors of arguments of any form.
func TestAnyArguments(t *testing.T) {
	r := rand.New(rand.NewSource(9))
	for seed := range int64(1500) {
		e, l := spoilt(r, makeExpr(seed, true)), makeKnown(seed)
		for range r.Intn(3) {
			if len(l) > 0 {
				k := &l[r.Intn(len(l))]
				k.Op, k.Span = []int{k.Op, anyInt(r)}[r.Intn(2)], []span.Span{k.Span, of(anyInt(r), anyInt(r))}[r.Intn(2)]
			}
		}
		want := expr.Check(e)
		if want == api.OK {
			want = span.CheckKnown(l)
		}
		facts, err1 := span.Nodes(e, l)
		fact, err2 := span.Of(e, l)
		n, err3 := span.Decide(e, l)
		if err1 != want || err2 != want || want != api.OK && (err3 != want || len(facts) > 0 || fact != span.Fact{} || n != 0) {
			t.Fatal("errors", seed, e, l, err1, err2, err3, want)
		}
		a, b := of(anyInt(r), anyInt(r)), of(anyInt(r), anyInt(r))
		if s, err := span.Apply(anyInt(r), anyInt(r), a, b); err != api.OK && s != of(0, 0) {
			t.Fatal("Apply", a, b, s, err)
		}
		if s, err := span.Not(anyInt(r), a); err != api.OK && s != of(0, 0) {
			t.Fatal("Not", a, s, err)
		}
		if s, err := span.Convert(anyInt(r), anyInt(r), anyInt(r), a); err != api.OK && s != of(0, 0) {
			t.Fatal("Convert", a, s, err)
		}
	}
}
