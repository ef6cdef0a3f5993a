package prove_test

import (
	"math"
	"slices"
	"testing"

	"halation/affine"
	"halation/api"
	"halation/prove"
	"halation/span"
)

// Promise P12.4.

// TestProofsProve asks all points of boxes whether they refute a claim that has a right proof.
func TestProofsProve(t *testing.T) {
	proved, refuting := 0, 0
	for seed := range int64(3000) {
		m := made(seed)
		c := m.claim()
		p, point, ok, err := prove.Decide(c, 400)
		if err == api.ErrLimit {
			continue
		}
		if !ok {
			refuting++
			if is, err := prove.Refutes(c, point); !is || err != api.OK {
				t.Fatal("no refutation", seed, c, point, err)
			}
			continue
		}
		if at, err := prove.Check(c, p); at != 0 || err != api.OK {
			t.Fatal("no proof", seed, c, p, at, err)
		}
		proved++
		unrefuted(t, c)
		// another proof that may be right
		if other := m.proof(c, 3); len(c.Spans) > 0 {
			if _, err := prove.Check(c, other); err == api.OK {
				unrefuted(t, c)
			}
		}
		weaker(t, m, c)
	}
	if proved < 300 || refuting < 300 {
		t.Error("rare", proved, refuting)
	}
}

func unrefuted(t *testing.T, c prove.Claim) {
	t.Helper()
	for _, point := range points(c.Spans) {
		is, err := prove.Refutes(c, point)
		if want := refuted(c, point); is != want || is || err != api.OK {
			t.Fatal("a claim with a proof is refuted", c, point, is, err)
		}
	}
}

// weaker changes a claim that holds to weaker ones.
func weaker(t *testing.T, m maker, c prove.Claim) {
	t.Helper()
	c.Given, c.Spans = append(slices.Clone(c.Given), m.line(len(c.Spans), 3)), slices.Clone(c.Spans)
	c.Goal.Const += m.Intn(3)
	for i, s := range c.Spans {
		low := s.Low + m.Intn(s.High-s.Low+1)
		c.Spans[i] = of(low, low+m.Intn(s.High-low+1))
	}
	if p, point, ok, err := prove.Decide(c, 400); !ok && err != api.ErrLimit {
		t.Fatal("a weaker claim does not hold", c, p, point, err)
	}
	unrefuted(t, c)
}

// TestRefutesAll compares points in and around boxes with the definition.
func TestRefutesAll(t *testing.T) {
	seen := map[bool]int{}
	for seed := range int64(500) {
		c := made(seed).claim()
		var around []span.Span
		for _, s := range c.Spans {
			around = append(around, of(s.Low-1, s.High+1))
		}
		for _, point := range points(around) {
			is, err := prove.Refutes(c, point)
			if is != refuted(c, point) || err != api.OK {
				t.Fatal(seed, c, point, is, err)
			}
			seen[is]++
		}
	}
	if seen[true] < 500 || seen[false] < 500 {
		t.Error("rare", seen)
	}
}

// TestEnds compares the least and the greatest values with those at all points.
func TestEnds(t *testing.T) {
	for seed := range int64(500) {
		m := made(seed)
		c := m.claim()
		low, high := math.MaxInt, math.MinInt
		for _, point := range points(c.Spans) {
			v, err := prove.Value(c.Goal, point)
			if err != api.OK || v != valueAt(c.Goal, point) {
				t.Fatal("Value", seed, c.Goal, point, v, err)
			}
			low, high = min(low, v), max(high, v)
		}
		least, err1 := prove.Least(c.Goal, c.Spans)
		greatest, err2 := prove.Greatest(c.Goal, c.Spans)
		if least != low || greatest != high || err1 != api.OK || err2 != api.OK {
			t.Fatal(seed, c.Goal, c.Spans, least, greatest, low, high)
		}
	}
}

// Promise P1.

// TestAnyArguments asks for nothing but the errors of arguments of any form.
func TestAnyArguments(t *testing.T) {
	for seed := range int64(3000) {
		m := made(seed)
		c := m.claim()
		for range m.Intn(3) {
			c = m.spoilt(c)
		}
		p := m.spoiltProof(m.proof(m.claim(), 2))
		want := wrongClaim(c)
		_, ok, err1 := prove.Direct(c)
		_, point, holds, err2 := prove.Decide(c, m.anyInt())
		if err1 != want || want != api.OK && (err2 != want || ok || holds || len(point) > 0) {
			t.Fatal("errors", seed, c, err1, err2, want)
		}
		numbers := make([]int, m.Intn(9))
		for i := range numbers {
			numbers[i] = m.anyInt()
		}
		if is, err := prove.Refutes(c, numbers); err != api.OK && is {
			t.Fatal("Refutes", seed, c, numbers, is, err)
		}
		l := m.spoiltLine(c.Goal)
		if v, err := prove.Value(l, numbers); err != api.OK && v != 0 {
			t.Fatal("Value", seed, l, numbers, v, err)
		}
		low, err1 := prove.Least(l, c.Spans)
		high, err2 := prove.Greatest(l, c.Spans)
		if err1 != err2 || err1 != api.OK && (low != 0 || high != 0) {
			t.Fatal("Least", seed, l, c.Spans, low, high, err1, err2)
		}
		if err := prove.CheckForm(c, p); err != wrongForm(c, p) {
			t.Fatal("CheckForm", seed, c, p, err)
		}
		if at, err := prove.Check(c, p); at != 0 && err == api.OK {
			t.Fatal("Check", seed, c, p, at)
		}
		if n, err := prove.Leaves(p); err != api.OK && n != 0 {
			t.Fatal("Leaves", seed, p, n, err)
		}
	}
	if _, _, err := prove.Of(affine.Form{Terms: make([]affine.Term, 40)}, nil, nil); err != api.ErrMany {
		t.Error("Of", err)
	}
}

// TestMemory changes results, and looks whether anything else changes.
func TestMemory(t *testing.T) {
	c := prove.Claim{Spans: []span.Span{of(0, 13), of(0, 13)}, Given: []prove.Line{line(1, 2, -2), line(1, -2, 2)}, Goal: line(0, 1, -1)}
	again := prove.Claim{Spans: slices.Clone(c.Spans), Given: []prove.Line{line(1, 2, -2), line(1, -2, 2)}, Goal: line(0, 1, -1)}
	p, _, _, _ := prove.Decide(c, 400)
	want, _, _, _ := prove.Decide(c, 400)
	for i, s := range p.Steps {
		for _, l := range [][]int{s.Given, s.Low, s.High} {
			for k := range l {
				l[k] += 100
			}
			_ = append(l, 7)
		}
		for k, other := range p.Steps {
			if k > i && !same(other, want.Steps[k]) {
				t.Fatal("steps share memory", i, k)
			}
		}
	}
	if !same(c, again) {
		t.Error("a claim was changed", c)
	}
	f, given := formOf(t, "x + min(y, 3)"), formsOf(t, "y - x", "min(y, 3)")
	l := knownOf("x", "y")
	first, atoms, err := prove.Of(f, given, l)
	if err != api.OK {
		t.Fatal(err)
	}
	first.Goal.Coeffs[0], first.Given[0].Coeffs[0], first.Spans[0].Low = 7, 8, 9
	for _, atom := range atoms {
		for i := range atom {
			atom[i].Name = "other"
			for k := range atom[i].Kids {
				atom[i].Kids[k] = 7
			}
		}
	}
	if first.Given[1].Coeffs[0] != 0 || !same(f, formOf(t, "x + min(y, 3)")) || !same(given, formsOf(t, "y - x", "min(y, 3)")) || !same(l, knownOf("x", "y")) {
		t.Error("Of shares memory", first, f, given)
	}
}
