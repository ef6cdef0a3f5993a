package prove_test

import (
	"math"
	"reflect"
	"slices"
	"testing"

	"halation/api"
	"halation/prove"
	"halation/span"
)

// same reports whether two values are equal, for which nil and empty lists are.
func same(a, b any) bool {
	return reflect.DeepEqual(filled(reflect.ValueOf(a)).Interface(), filled(reflect.ValueOf(b)).Interface())
}

// filled returns a value with nil lists that are empty ones.
func filled(v reflect.Value) reflect.Value {
	out := reflect.New(v.Type()).Elem()
	switch v.Kind() {
	case reflect.Slice:
		out.Set(reflect.MakeSlice(v.Type(), 0, v.Len()))
		for i := range v.Len() {
			out.Set(reflect.Append(out, filled(v.Index(i))))
		}
	case reflect.Struct:
		for i := range v.NumField() {
			out.Field(i).Set(filled(v.Field(i)))
		}
	default:
		out.Set(v)
	}
	return out
}

func line(constant int, coeffs ...int) prove.Line {
	return prove.Line{Coeffs: coeffs, Const: constant}
}

func claimA() prove.Claim {
	return prove.Claim{Spans: []span.Span{of(0, 9), of(0, 9)}, Given: []prove.Line{line(0, 1, -1)}, Goal: line(0, 2, -1)}
}

func claimB() prove.Claim {
	return prove.Claim{Spans: []span.Span{of(0, 9)}, Goal: line(-7, 2)}
}

func claimC() prove.Claim {
	return prove.Claim{Spans: []span.Span{of(0, 3), of(0, 3)}, Given: []prove.Line{line(-1, 2, -2), line(0, -2, 2)}, Goal: line(-1, 0, 0)}
}

func split(variable, bound, a, b int) prove.Step {
	return prove.Step{Variable: variable, Bound: bound, Kids: [2]int{a, b}}
}

func leafOf(goal int, given, low, high []int) prove.Step {
	return prove.Step{Leaf: true, Goal: goal, Given: given, Low: low, High: high}
}

// Promise P12.1.

func TestCheckClaim(t *testing.T) {
	end, far := 1<<20, 1<<40
	for i, x := range []struct {
		c    prove.Claim
		want api.Errno
	}{
		{claimA(), api.OK}, {claimB(), api.OK}, {claimC(), api.OK}, {prove.Claim{}, api.OK},
		{prove.Claim{Spans: make([]span.Span, 6), Goal: line(far, end, -end, 0, 0, 0, 0)}, api.OK},
		{prove.Claim{Spans: make([]span.Span, 7)}, api.ErrMany},
		{prove.Claim{Spans: append(make([]span.Span, 6), of(1, 0))}, api.ErrMany},
		{prove.Claim{Spans: []span.Span{of(-end, end)}, Goal: line(-far, end)}, api.OK},
		{prove.Claim{Spans: []span.Span{of(-end-1, -end-2)}}, api.ErrRange},
		{prove.Claim{Spans: []span.Span{of(1, end+1)}}, api.ErrRange},
		{prove.Claim{Spans: []span.Span{of(end+1, 1)}}, api.ErrRange},
		{prove.Claim{Spans: []span.Span{of(1, -end-1)}}, api.ErrRange},
		{prove.Claim{Spans: []span.Span{of(1, 0), of(end+1, end+1)}}, api.ErrOrder},
		{prove.Claim{Spans: []span.Span{of(1, 1), of(1, 0)}, Given: make([]prove.Line, 13)}, api.ErrOrder},
		{prove.Claim{Given: make([]prove.Line, 13), Goal: line(far + 1)}, api.ErrMany},
		{prove.Claim{Given: make([]prove.Line, 12), Goal: line(far + 1)}, api.ErrRange},
		{prove.Claim{Given: []prove.Line{line(0), line(far+1, 1)}, Goal: line(far + 1)}, api.ErrShape},
		{prove.Claim{Given: []prove.Line{line(-far - 1), line(0, 1)}}, api.ErrRange},
		{prove.Claim{Spans: []span.Span{of(0, 1)}, Given: []prove.Line{line(0, end+1)}}, api.ErrRange},
		{prove.Claim{Spans: []span.Span{of(0, 1)}, Goal: line(0, -end-1)}, api.ErrRange},
		{prove.Claim{Spans: []span.Span{of(0, 1)}, Goal: line(0)}, api.ErrShape},
		{prove.Claim{Spans: []span.Span{of(0, 1)}, Goal: line(0, 1, 1)}, api.ErrShape},
		{prove.Claim{Goal: line(math.MinInt)}, api.ErrRange},
		{prove.Claim{Spans: []span.Span{of(math.MinInt, math.MinInt)}}, api.ErrRange},
	} {
		if err := prove.CheckClaim(x.c); err != x.want {
			t.Error(i, err, x.want)
		}
	}
}

// TestFormOrder takes steps with all errors, and rights one after the other.
func TestFormOrder(t *testing.T) {
	right := leafOf(1, []int{1}, []int{1, 0}, []int{0, 0})
	for _, leaf := range []bool{true, false} {
		s := prove.Step{Leaf: leaf, Goal: -1, Given: []int{1001, 1}, Low: []int{-1}, High: []int{-1}, Variable: 2, Bound: 1<<20 + 1, Kids: [2]int{9, 9}}
		type change struct {
			want  api.Errno
			right func()
		}
		changes := []change{
			{api.ErrShape, func() { s.Given = []int{1001} }},
			{api.ErrShape, func() { s.Low = []int{-1, 1<<35 + 1} }},
			{api.ErrShape, func() { s.High = []int{-1, 1<<35 + 1} }},
			{api.ErrRange, func() { s.Goal = 1000 }},
			{api.ErrRange, func() { s.Given[0] = 1000 }},
			{api.ErrRange, func() { s.Low[0] = 0 }},
			{api.ErrRange, func() { s.Low[1] = 1 << 35 }},
			{api.ErrRange, func() { s.High[0] = 0 }},
			{api.ErrRange, func() { s.High[1] = 1 << 35 }},
			{api.ErrForm, func() { s.Variable = 0 }},
			{api.ErrForm, func() { s.Bound = 0 }},
			{api.ErrForm, func() { s.Kids[0] = 0 }},
			{api.ErrForm, func() { s.Kids[1] = 0 }},
			{api.OK, func() {}},
		}
		if !leaf {
			changes = []change{
				{api.ErrForm, func() { s.Goal = 0 }},
				{api.ErrForm, func() { s.Given = nil }},
				{api.ErrForm, func() { s.Low = []int{} }},
				{api.ErrForm, func() { s.High = nil }},
				{api.ErrUnknown, func() { s.Variable = -1 }},
				{api.ErrUnknown, func() { s.Variable = 1 }},
				{api.ErrRange, func() { s.Bound = -1<<20 - 1 }},
				{api.ErrRange, func() { s.Bound = -1 << 20 }},
				{api.ErrOrder, func() { s.Kids[0] = 0 }},
				{api.ErrOrder, func() { s.Kids[1] = 2 }},
				{api.ErrOrder, func() { s.Kids[1] = -1 }},
				{api.ErrOrder, func() { s.Kids[1] = 0 }},
				{api.ErrTwice, func() { s.Kids[1] = 1 }},
				{api.OK, func() {}},
			}
		}
		for i, x := range changes {
			steps := []prove.Step{right, right, s}
			if leaf {
				steps = []prove.Step{s}
			}
			if err := prove.CheckForm(claimA(), prove.Proof{Steps: steps}); err != x.want {
				t.Error(leaf, i, err, x.want)
			}
			later := append(steps, prove.Step{Leaf: true})
			if err := prove.CheckForm(claimA(), prove.Proof{Steps: later}); x.want != api.OK && err != x.want {
				t.Error("the first step decides", leaf, i, err, x.want)
			}
			x.right()
		}
	}
}

func TestCheckForm(t *testing.T) {
	right := leafOf(1, []int{1}, []int{1, 0}, []int{0, 0})
	wrong := prove.Step{Leaf: true}
	for i, x := range []struct {
		steps []prove.Step
		want  api.Errno
	}{
		{nil, api.ErrEmpty}, {make([]prove.Step, 401), api.ErrMany}, {make([]prove.Step, 400), api.ErrOrder},
		{[]prove.Step{right}, api.OK}, {[]prove.Step{right, right}, api.ErrShape}, {[]prove.Step{right, right, split(0, 4, 1, 0)}, api.OK},
		{[]prove.Step{right, right, split(0, 4, 0, 1), right}, api.ErrShape},
		{[]prove.Step{right, right, split(0, 4, 0, 1), right, split(1, 4, 3, 2)}, api.OK},
		{[]prove.Step{right, right, split(0, 4, 0, 1), right, split(1, 4, 3, 1)}, api.ErrTwice},
		{[]prove.Step{right, right, split(0, 4, 0, 1), right, split(1, 4, 0, 2)}, api.ErrTwice},
		{[]prove.Step{right, right, split(0, 4, 0, 1), right, split(1, 4, 2, 4)}, api.ErrOrder},
		{[]prove.Step{right, right, right, split(0, 4, 1, 2)}, api.ErrShape},
		{[]prove.Step{split(0, 4, 0, 1), right}, api.ErrOrder},
		{[]prove.Step{right, wrong, split(9, 4, 0, 1)}, api.ErrShape},
	} {
		if err := prove.CheckForm(claimA(), prove.Proof{Steps: x.steps}); err != x.want {
			t.Error(i, err, x.want)
		}
		if at, err := prove.Check(claimA(), prove.Proof{Steps: x.steps}); x.want != api.OK && (at != 0 || err != x.want) {
			t.Error("Check", i, at, err, x.want)
		}
	}
	if err := prove.CheckForm(prove.Claim{Goal: line(0, 1)}, prove.Proof{}); err != api.ErrShape {
		t.Error("the claim decides first", err)
	}
	if err := prove.CheckForm(prove.Claim{}, prove.Proof{Steps: []prove.Step{split(0, 0, 0, 0)}}); err != api.ErrUnknown {
		t.Error("a split without variables", err)
	}
}

func TestCheck(t *testing.T) {
	right := leafOf(1, []int{1}, []int{1, 0}, []int{0, 0})
	wrong := leafOf(0, []int{0}, []int{0, 0}, []int{0, 0})
	for i, x := range []struct {
		steps []prove.Step
		at    int
		want  api.Errno
	}{
		{[]prove.Step{right}, 0, api.OK}, {[]prove.Step{wrong}, 0, api.ErrProof},
		{[]prove.Step{right, right, split(0, 0, 0, 1)}, 0, api.OK}, {[]prove.Step{right, right, split(1, 8, 0, 1)}, 0, api.OK},
		{[]prove.Step{right, right, split(1, 9, 0, 1)}, 2, api.ErrBounds}, {[]prove.Step{right, right, split(1, -1, 0, 1)}, 2, api.ErrBounds},
		{[]prove.Step{wrong, wrong, split(0, 4, 0, 1)}, 0, api.ErrProof}, {[]prove.Step{wrong, wrong, split(0, 4, 1, 0)}, 1, api.ErrProof},
		{[]prove.Step{wrong, wrong, split(0, 10, 1, 0)}, 2, api.ErrBounds},
		{[]prove.Step{right, right, split(0, 5, 0, 1), right, split(0, 5, 2, 3)}, 2, api.ErrBounds},
		{[]prove.Step{right, right, split(0, 4, 0, 1), right, split(0, 5, 2, 3)}, 0, api.OK},
		{[]prove.Step{right, right, split(0, 5, 0, 1), right, split(0, 5, 3, 2)}, 2, api.ErrBounds},
		{[]prove.Step{right, right, split(0, 6, 0, 1), right, split(0, 5, 3, 2)}, 0, api.OK},
		{[]prove.Step{wrong, right, split(0, 9, 0, 1), wrong, split(0, 5, 3, 2)}, 3, api.ErrProof},
		{[]prove.Step{wrong, right, split(1, 9, 0, 1), right, split(0, 5, 3, 2)}, 2, api.ErrBounds},
		{[]prove.Step{right, wrong, split(1, 4, 0, 1), wrong, split(0, 5, 2, 3)}, 1, api.ErrProof},
	} {
		if at, err := prove.Check(claimA(), prove.Proof{Steps: x.steps}); at != x.at || err != x.want {
			t.Error(i, at, err, x.want)
		}
	}
}

// TestLeafExamples has the leaves of the examples, and some at the ends of what is right.
func TestLeafExamples(t *testing.T) {
	one := func(low, high, coeff, constant int) prove.Claim {
		return prove.Claim{Spans: []span.Span{of(low, high)}, Goal: line(constant, coeff)}
	}
	for i, x := range []struct {
		c    prove.Claim
		s    prove.Step
		want api.Errno
	}{
		{claimC(), leafOf(0, []int{1, 1}, []int{0, 0}, []int{0, 0}), api.OK},
		{one(3, 9, 1, -3), leafOf(1, nil, []int{1}, []int{0}), api.OK},
		{one(2, 9, 1, -3), leafOf(1, nil, []int{1}, []int{0}), api.ErrProof},
		{one(2, 9, 1, -3), leafOf(2, nil, []int{2}, []int{0}), api.ErrProof},
		{one(3, 9, 2, -7), leafOf(1, nil, []int{2}, []int{0}), api.ErrProof},
		{one(3, 9, 2, -6), leafOf(1, nil, []int{3}, []int{1}), api.ErrProof},
		{one(3, 9, 2, -6), leafOf(1, nil, []int{1}, []int{0}), api.ErrProof},
		{one(3, 3, 2, -6), leafOf(1, nil, []int{3}, []int{1}), api.OK},
		{one(3, 9, -1, 9), leafOf(1, nil, []int{0}, []int{1}), api.OK},
		{one(3, 9, -1, 8), leafOf(1, nil, []int{0}, []int{1}), api.ErrProof},
		{one(3, 9, 0, 0), leafOf(0, nil, []int{0}, []int{0}), api.ErrProof},
		{one(3, 9, 0, 0), leafOf(1000, nil, []int{0}, []int{0}), api.OK},
		{prove.Claim{Goal: line(0)}, leafOf(1, nil, nil, nil), api.OK},
		{prove.Claim{Goal: line(-1)}, leafOf(1, nil, nil, nil), api.ErrProof},
		{prove.Claim{Given: []prove.Line{line(-1)}, Goal: line(-9)}, leafOf(0, []int{1}, nil, nil), api.OK},
		{prove.Claim{Given: []prove.Line{line(0)}, Goal: line(-9)}, leafOf(0, []int{1}, nil, nil), api.ErrProof},
		// half of the given line less one half is enough: 2 goal - given is -1
		{prove.Claim{Spans: []span.Span{of(0, 9)}, Given: []prove.Line{line(-3, 2)}, Goal: line(-2, 1)}, leafOf(2, []int{1}, []int{0}, []int{0}), api.OK},
		{prove.Claim{Spans: []span.Span{of(0, 9)}, Given: []prove.Line{line(-2, 2)}, Goal: line(-2, 1)}, leafOf(2, []int{1}, []int{0}, []int{0}), api.ErrProof},
	} {
		if _, err := prove.Check(x.c, prove.Proof{Steps: []prove.Step{x.s}}); err != x.want {
			t.Error(i, err, x.want)
		}
	}
}

func TestLeaves(t *testing.T) {
	leaf := prove.Step{Leaf: true, Goal: -7, Kids: [2]int{9, 9}}
	for i, x := range []struct {
		steps []prove.Step
		want  int
		err   api.Errno
	}{
		{nil, 0, api.ErrEmpty}, {make([]prove.Step, 401), 0, api.ErrMany}, {make([]prove.Step, 400), 0, api.OK},
		{[]prove.Step{leaf, leaf, split(0, 4, 0, 1)}, 2, api.OK}, {[]prove.Step{leaf}, 1, api.OK}, {[]prove.Step{split(-1, 0, 0, 0), leaf}, 1, api.OK},
	} {
		if n, err := prove.Leaves(prove.Proof{Steps: x.steps}); n != x.want || err != x.err {
			t.Error(i, n, err)
		}
	}
}

// TestCheckMade compares the checks of proofs, right ones and others, with the document's words.
func TestCheckMade(t *testing.T) {
	seen := map[api.Errno]int{}
	compare := func(seed int64, c prove.Claim, p prove.Proof) {
		want, wantAt := wrongForm(c, p), 0
		if err := prove.CheckForm(c, p); err != want {
			t.Fatal("CheckForm", seed, c, p, err, want)
		}
		if want == api.OK {
			wantAt, want = wrongProof(c, p, len(p.Steps)-1)
		}
		seen[want]++
		if at, err := prove.Check(c, p); at != wantAt || err != want {
			t.Fatal("Check", seed, c, p, at, err, wantAt, want)
		}
		if err := prove.CheckClaim(c); err != wrongClaim(c) {
			t.Fatal("CheckClaim", seed, c, err)
		}
	}
	for seed := range int64(4000) {
		m := made(seed)
		c := m.claim()
		if m.Intn(4) == 0 {
			c = m.large()
		}
		p := m.proof(c, []int{1, 3, 1 << 36}[m.Intn(3)])
		compare(seed, c, p)
		compare(seed, c, m.spoiltProof(p))
		compare(seed, m.spoilt(c), p)
		if p, _, ok, err := prove.Decide(c, 400); ok && err == api.OK {
			compare(seed, c, p)
			factor := 1 + m.Intn(5)
			for i, s := range p.Steps { // a multiple of a leaf is one
				p.Steps[i].Goal *= factor
				for _, l := range [][]int{s.Given, s.Low, s.High} {
					for k := range l {
						l[k] *= factor
					}
				}
			}
			compare(seed, c, p)
			compare(seed, c, m.spoiltProof(p))
		}
	}
	for _, err := range []api.Errno{api.OK, api.ErrShape, api.ErrRange, api.ErrForm, api.ErrUnknown, api.ErrOrder, api.ErrTwice, api.ErrBounds, api.ErrProof, api.ErrMany} {
		if seen[err] < 20 {
			t.Error("rare", err, seen)
		}
	}
}

// Promise P12.2.

func TestValues(t *testing.T) {
	low, err1 := prove.Least(claimA().Goal, claimA().Spans)
	high, err2 := prove.Greatest(claimA().Goal, claimA().Spans)
	v, err3 := prove.Value(claimA().Goal, []int{3, 8})
	if low != -9 || high != 18 || v != -2 || err1 != api.OK || err2 != api.OK || err3 != api.OK {
		t.Error(low, high, v, err1, err2, err3)
	}
	end := 1 << 20
	wide := prove.Line{Coeffs: []int{end, end, -end, end, -end, end}, Const: 1 << 40}
	box := []span.Span{of(-end, end), of(-end, end), of(-end, end), of(-end, end), of(-end, end), of(-end, end)}
	low, err1 = prove.Least(wide, box)
	high, err2 = prove.Greatest(wide, box)
	if low != -5<<40 || high != 7<<40 || err1 != api.OK || err2 != api.OK {
		t.Error("wide", low, high, err1, err2)
	}
	v, err1 = prove.Value(line(7), nil)
	low, err2 = prove.Least(line(-7), nil)
	if v != 7 || low != -7 || err1 != api.OK || err2 != api.OK {
		t.Error("no variables", v, low, err1, err2)
	}
	for i, x := range []struct {
		l    prove.Line
		s    []span.Span
		want api.Errno
	}{
		{line(0, 1), nil, api.ErrShape}, {line(1<<41, 1), []span.Span{of(0, 1), of(0, 1)}, api.ErrShape}, {line(0), []span.Span{of(1, 0)}, api.ErrShape},
		{line(0, 1<<21), []span.Span{of(1, 0)}, api.ErrRange}, {line(1<<40+1, 0), []span.Span{of(1, 0)}, api.ErrRange}, {line(0, 1), []span.Span{of(1, 0)}, api.ErrOrder},
		{line(0, 1), []span.Span{of(0, end+1)}, api.ErrRange}, {line(0, 1), []span.Span{of(-end-1, -end-2)}, api.ErrRange},
		{prove.Line{Coeffs: make([]int, 7)}, make([]span.Span, 7), api.ErrMany}, {prove.Line{Coeffs: []int{end + 1, 0, 0, 0, 0, 0, 0}}, make([]span.Span, 7), api.ErrRange},
	} {
		low, err1 := prove.Least(x.l, x.s)
		high, err2 := prove.Greatest(x.l, x.s)
		if low != 0 || high != 0 || err1 != x.want || err2 != x.want {
			t.Error(i, low, high, err1, err2, x.want)
		}
	}
	for i, x := range []struct {
		l     prove.Line
		point []int
		want  api.Errno
	}{
		{line(0), make([]int, 7), api.ErrMany}, {line(0), []int{end + 1}, api.ErrRange}, {line(0), []int{0, -end - 1}, api.ErrRange}, {line(0), []int{math.MinInt}, api.ErrRange}, {line(0), []int{end}, api.ErrShape},
		{line(0, 1, 1), []int{-end}, api.ErrShape}, {line(0, end+1), []int{0}, api.ErrRange}, {line(-1<<40-1, 0), []int{0}, api.ErrRange},
	} {
		if v, err := prove.Value(x.l, x.point); v != 0 || err != x.want {
			t.Error("Value", i, v, err, x.want)
		}
	}
}

func TestRefutes(t *testing.T) {
	for i, x := range []struct {
		c     prove.Claim
		point []int
		want  bool
		err   api.Errno
	}{
		{claimB(), []int{3}, true, api.OK}, {claimB(), []int{4}, false, api.OK}, {claimB(), []int{0}, true, api.OK}, {claimB(), []int{-1}, false, api.OK}, {claimB(), []int{10}, false, api.OK},
		{prove.Claim{Spans: []span.Span{of(0, 9)}, Goal: line(0, -1)}, []int{9}, true, api.OK}, {prove.Claim{Spans: []span.Span{of(0, 9)}, Goal: line(0, -1)}, []int{10}, false, api.OK},
		{claimB(), nil, false, api.ErrShape}, {claimB(), []int{0, 0}, false, api.ErrShape}, {prove.Claim{Goal: line(0, 1)}, []int{0}, false, api.ErrShape}, {prove.Claim{Spans: []span.Span{of(1, 0)}}, nil, false, api.ErrOrder},
		{claimB(), []int{math.MinInt}, false, api.OK}, {claimB(), []int{math.MaxInt}, false, api.OK},
		{claimA(), []int{1, 5}, false, api.OK}, {claimC(), []int{1, 1}, false, api.OK}, {claimC(), []int{1, 0}, false, api.OK},
		{prove.Claim{Goal: line(-1)}, nil, true, api.OK}, {prove.Claim{Goal: line(0)}, nil, false, api.OK},
		{prove.Claim{Given: []prove.Line{line(0)}, Goal: line(-1)}, nil, true, api.OK}, {prove.Claim{Given: []prove.Line{line(0), line(-1)}, Goal: line(-1)}, nil, false, api.OK},
	} {
		if got, err := prove.Refutes(x.c, x.point); got != x.want || err != x.err {
			t.Error(i, got, err)
		}
	}
}

// Promise P12.3.

func TestDirect(t *testing.T) {
	x := []span.Span{of(0, 9)}
	for i, c := range []struct {
		c    prove.Claim
		want prove.Step
		ok   bool
	}{
		{claimA(), leafOf(1, []int{1}, []int{1, 0}, []int{0, 0}), true},
		{claimB(), prove.Step{}, false}, {claimC(), prove.Step{}, false},
		{prove.Claim{Spans: x, Goal: line(-9, 0)}, prove.Step{}, false},
		{prove.Claim{Spans: []span.Span{of(3, 9)}, Goal: line(-3, 1)}, leafOf(1, nil, []int{1}, []int{0}), true},
		{prove.Claim{Spans: []span.Span{of(3, 9)}, Goal: line(9, -1)}, leafOf(1, nil, []int{0}, []int{1}), true},
		// the first contradiction is taken, also where the goal is certain
		{prove.Claim{Spans: x, Given: []prove.Line{line(0, 0), line(-1, -1), line(-2, 0)}, Goal: line(5, 0)}, leafOf(0, []int{0, 1, 0}, []int{1}, []int{0}), true},
		// the goal alone is taken before lines are
		{prove.Claim{Spans: x, Given: []prove.Line{line(0, 1)}, Goal: line(0, 1)}, leafOf(1, []int{0}, []int{1}, []int{0}), true},
		// of the multiples that do, the least one of the first line is taken
		{prove.Claim{Spans: x, Given: []prove.Line{line(-9, 1), line(-5, 2), line(-1, 1)}, Goal: line(-3, 3)}, leafOf(1, []int{1, 0, 0}, []int{2}, []int{0}), true},
		{prove.Claim{Spans: x, Given: []prove.Line{line(0, 0), line(-1, 1)}, Goal: line(-3, 3)}, leafOf(1, []int{0, 3}, []int{0}, []int{0}), true},
		{prove.Claim{Spans: x, Given: []prove.Line{line(0, 0), line(-1, 1)}, Goal: line(-4, 4)}, leafOf(1, []int{0, 4}, []int{0}, []int{0}), true},
		{prove.Claim{Spans: x, Given: []prove.Line{line(0, 0), line(-1, 1)}, Goal: line(-5, 5)}, prove.Step{}, false},
		{prove.Claim{Goal: line(0)}, leafOf(1, nil, nil, nil), true}, {prove.Claim{Goal: line(-1)}, prove.Step{}, false},
	} {
		if s, ok, err := prove.Direct(c.c); !same(s, c.want) || ok != c.ok || err != api.OK {
			t.Error(i, s, ok, err)
		}
	}
	if s, ok, err := prove.Direct(prove.Claim{Goal: line(0, 1)}); !same(s, prove.Step{}) || ok || err != api.ErrShape {
		t.Error("an error", s, ok, err)
	}
}

func TestDecide(t *testing.T) {
	negative := prove.Claim{Spans: []span.Span{of(-8, -7)}, Goal: line(-7, -1)}
	for i, x := range []struct {
		c     prove.Claim
		tries int
		point []int
		err   api.Errno
	}{
		{claimB(), 5, []int{0}, api.OK}, {claimB(), 4, nil, api.ErrLimit}, {claimB(), 400, []int{0}, api.OK}, {claimB(), 401, nil, api.ErrRange}, {claimB(), 0, nil, api.ErrRange}, {claimB(), -1, nil, api.ErrRange},
		{prove.Claim{Goal: line(0, 1)}, 0, nil, api.ErrShape}, {prove.Claim{Goal: line(-1)}, 1, nil, api.OK},
		{prove.Claim{Spans: []span.Span{of(-8, -7)}, Goal: line(-8, -1)}, 3, []int{-7}, api.OK},
		{prove.Claim{Spans: []span.Span{of(-8, -7)}, Goal: line(-8, -1)}, 2, nil, api.ErrLimit},
	} {
		p, point, ok, err := prove.Decide(x.c, x.tries)
		if len(p.Steps) > 0 || !slices.Equal(point, x.point) || ok || err != x.err {
			t.Error(i, p, point, ok, err)
		}
	}
	for i, x := range []struct {
		c    prove.Claim
		want []prove.Step
	}{
		{negative, []prove.Step{leafOf(1, nil, []int{0}, []int{1})}},
		{prove.Claim{Spans: []span.Span{of(-8, -7)}, Given: []prove.Line{line(-15, -2)}, Goal: line(-8, -1)}, []prove.Step{
			leafOf(1, []int{0}, []int{0}, []int{1}), leafOf(0, []int{1}, []int{2}, []int{0}), split(0, -8, 0, 1)}},
		// the second variable is the first one of those with the widest span
		{prove.Claim{Spans: []span.Span{of(0, 0), of(0, 1), of(4, 5)}, Given: []prove.Line{line(-1, 0, 2, 0)}, Goal: line(-1, 0, 1, 0)}, []prove.Step{
			leafOf(0, []int{1}, []int{0, 0, 0}, []int{0, 2, 0}), leafOf(1, []int{0}, []int{0, 1, 0}, []int{0, 0, 0}), split(1, 0, 0, 1)}},
	} {
		p, point, ok, err := prove.Decide(x.c, 3)
		if !same(p.Steps, x.want) || len(point) > 0 || !ok || err != api.OK {
			t.Error(i, p, point, ok, err)
		}
	}
	p, _, ok, err := prove.Decide(claimC(), 400)
	if n, _ := prove.Leaves(p); n < 4 || !ok || err != api.OK {
		t.Error("C", p, ok, err)
	}
}

func TestDecideMade(t *testing.T) {
	proofs, refutations, limits := 0, 0, 0
	for seed := range int64(6000) {
		m := made(seed)
		c := m.claim()
		if m.Intn(5) == 0 {
			c = m.large()
		}
		s, ok, err := prove.Direct(c)
		if want, wantOK := direct(c); !same(s, want) || ok != wantOK || err != api.OK {
			t.Fatal("Direct", seed, c, s, ok, err, want)
		}
		d := decision{most: []int{1, 2, 5, 20, 400}[m.Intn(5)]}
		d.decide(c)
		p, point, ok, err := prove.Decide(c, d.most)
		switch {
		case d.limit:
			limits++
			if err != api.ErrLimit || ok || len(p.Steps)+len(point) > 0 {
				t.Fatal("no limit", seed, c, p, point, ok, err)
			}
		case d.refuted:
			refutations++
			if err != api.OK || ok || len(p.Steps) > 0 || !slices.Equal(point, d.point) {
				t.Fatal("no refutation", seed, c, p, point, ok, err, d.point)
			}
		default:
			proofs++
			if err != api.OK || !ok || len(point) > 0 || !same(p.Steps, d.steps) {
				t.Fatal("no proof", seed, c, p, point, ok, err, d.steps)
			}
		}
	}
	if proofs < 500 || refutations < 500 || limits < 500 {
		t.Error("rare", proofs, refutations, limits)
	}
}

// TestDecideTries needs as many tries as the proof has steps.
func TestDecideTries(t *testing.T) {
	// 2 x - 2 y is between -1 and 1, so that x is y; halves alone find it
	c := prove.Claim{Spans: []span.Span{of(0, 13), of(0, 13)}, Given: []prove.Line{line(1, 2, -2), line(1, -2, 2)}, Goal: line(0, 1, -1)}
	p, _, ok, err := prove.Decide(c, 400)
	least := len(p.Steps)
	if !ok || err != api.OK || least < 9 {
		t.Fatal(p, ok, err)
	}
	for tries := 1; tries <= 400; tries++ {
		again, point, ok, err := prove.Decide(c, tries)
		if len(point) > 0 || tries < least && (ok || err != api.ErrLimit || len(again.Steps) > 0) || tries >= least && (!ok || err != api.OK || !same(again, p)) {
			t.Error(tries, again, point, ok, err)
		}
	}
}
