package simp_test

import (
	"slices"
	"strings"
	"testing"

	"halation/api"
	"halation/expr"
	"halation/simp"
	"halation/span"
)

// Promise P14.4.

// TestValues compares the values of expressions before and after they are simplified.
func TestValues(t *testing.T) {
	shorter := 0
	for seed := range int64(1200) {
		m := newMaker(seed)
		e, l := m.some(40, false), m.known()
		simple, log, err := simp.Simplify(e, l)
		if err != api.OK {
			t.Fatal(seed, err)
		}
		if len(log) > 0 {
			shorter++
		}
		for range 4 {
			given := m.bindings(l, e)
			v, err1 := expr.Eval(e, given)
			w, err2 := expr.Eval(simple, given)
			if err1 != api.OK || err2 != api.OK || !slices.Equal(v, w) {
				t.Fatal("the value", seed, text(e), text(simple), l, given, v, w, err1, err2)
			}
		}
	}
	if shorter < 600 {
		t.Error("rare", shorter)
	}
}

// TestUnderValues compares values where a condition is true, and asks whether all that is possible is known.
func TestUnderValues(t *testing.T) {
	compared, impossible := 0, 0
	for seed := range int64(1500) {
		m := newMaker(seed)
		e, condition, l := m.some(20, false), m.condition(2), m.known()
		known, possible, err := simp.Assume(l, condition)
		if err != api.OK {
			t.Fatal(seed, err)
		}
		simple, err := simp.Under(e, condition, l)
		if possible != (err == api.OK) || !possible && err != api.ErrConflict {
			t.Fatal("Under", seed, text(condition), possible, err)
		}
		if possible {
			if want, _, _ := simp.Simplify(e, known); !expr.Same(simple, want) {
				t.Fatal("Under is not simplified with what is told", seed, text(e), text(condition), text(simple), text(want))
			}
		}
		for range 12 {
			given := m.bindings(l, condition, e)
			v, err := expr.Eval(condition, given)
			if err != api.OK || v[0].Bits == 0 {
				continue
			}
			if !possible {
				t.Fatal("what is true is not possible", seed, text(condition), l, given)
			}
			compared++
			before, _ := expr.Eval(e, given)
			after, err := expr.Eval(simple, given)
			if err != api.OK || !slices.Equal(before, after) {
				t.Fatal("the value", seed, text(e), text(condition), text(simple), l, given, before, after, err)
			}
		}
		if !possible {
			impossible++
		}
	}
	if compared < 500 || impossible < 50 {
		t.Error("rare", compared, impossible)
	}
}

// TestLong simplifies expressions with as many nodes as there may be.
func TestLong(t *testing.T) {
	for s, want := range map[string]string{
		"j" + strings.Repeat(" + 1", 127):    "j + 127",
		"0" + strings.Repeat(" + j", 127):    "j" + strings.Repeat(" + j", 126),
		"j" + strings.Repeat(" - j", 127):    "0" + strings.Repeat(" - j", 126),
		strings.Repeat("!", 254) + "j":       "j",
		"j" + strings.Repeat(" * 3 * 1", 63): "j * 2111105451",
	} {
		e := parsed(t, s)
		out, log, err := simp.Simplify(e, nil)
		if text(out) != want || err != api.OK || len(log) > simp.MaxSteps {
			t.Error(s, text(out), len(log), err)
		}
		if back, at, err := simp.Replay(e, nil, log); !expr.Same(back, out) || at != 0 || err != api.OK {
			t.Error("Replay", s, at, err)
		}
	}
}

// Promise P1.

// TestAnyArguments asks for nothing but the errors of arguments of any form.
func TestAnyArguments(t *testing.T) {
	for seed := range int64(1500) {
		m := newMaker(seed)
		e, l := m.some(30, true), m.known()
		if m.Intn(3) > 0 {
			e = m.spoilt(e)
		}
		condition := m.condition(2)
		if m.Intn(2) == 0 {
			condition = m.spoilt(condition)
		}
		for range m.Intn(3) {
			l = m.spoiltKnown(l)
		}
		wrong, unknown := expr.Check(e), span.CheckKnown(l)
		want := wrong
		if want == api.OK {
			want = unknown
		}
		s := simp.Step{Rule: []string{"fold", "known", "add_zero", "?"}[m.Intn(4)], Node: m.anyInt()}
		_, ok, err1 := simp.Next(e, l)
		_, _, err2 := simp.Simplify(e, l)
		out, err3 := simp.Do(e, l, s)
		_, err4 := simp.IsNormal(e, l)
		if err1 != want || err2 != want || err4 != want || want != api.OK && (err3 != want || ok || len(out) > 0) {
			t.Fatal(seed, e, l, err1, err2, err3, err4, want)
		}
		if inside := s.Node >= 0 && s.Node < len(e); want == api.OK && (err3 == api.ErrUnknown) != (!inside || s.Rule == "?") {
			t.Fatal("Do", seed, e, s, err3)
		}
		want = expr.Check(condition)
		if want == api.OK {
			if n := condition[len(condition)-1]; n.Kind != api.Bool {
				want = api.ErrType
			} else if n.Lanes != 1 {
				want = api.ErrVector
			}
		}
		first := unknown
		if first == api.OK {
			first = want
		}
		if got, ok, err := simp.Assume(l, condition); err != first || err != api.OK && (ok || len(got) > 0) {
			t.Fatal("Assume", seed, condition, l, got, ok, err, first)
		}
		for _, err := range []api.Errno{want, unknown} {
			if wrong == api.OK {
				wrong = err
			}
		}
		if out, err := simp.Under(e, condition, l); wrong != api.OK && (err != wrong || len(out) > 0) || wrong == api.OK && err != api.OK && err != api.ErrConflict {
			t.Fatal("Under", seed, e, condition, l, out, err, wrong)
		}
	}
}

// TestMemory changes results, and looks whether anything else changes.
func TestMemory(t *testing.T) {
	scribble := func(e api.Expr) {
		for i := range e {
			for k := range e[i].Kids {
				e[i].Kids[k] = 99
			}
			for k := range e[i].Picks {
				e[i].Picks[k] = 99
			}
			e[i] = api.Node{Op: 99}
		}
	}
	for _, s := range []string{"shuffle(ramp(j, 1, 4), 2)", "shuffle(ramp(j, 1, 4), 2) + 0", "i"} {
		e, l := parsed(t, s), exampleKnown()
		out, _, _ := simp.Simplify(e, l)
		scribble(out)
		out, _, _ = simp.Replay(e, l, nil)
		scribble(out)
		out, _ = simp.Do(e, l, simp.Step{Rule: "add_zero", Node: len(e) - 1})
		scribble(out)
		condition := parsed(t, "i < 5")
		out, _ = simp.Under(e, condition, l)
		scribble(out)
		known, _, _ := simp.Assume(l, condition)
		known[1].Name = "other"
		_ = append(known[:1], span.Known{})
		known, _, _ = simp.Assume(l, parsed(t, "true"))
		known[0].Name = "other"
		if !expr.Same(e, parsed(t, s)) || !slices.Equal(l, exampleKnown()) || !expr.Same(condition, parsed(t, "i < 5")) {
			t.Error("arguments were changed", s, e, l, condition)
		}
	}
}
