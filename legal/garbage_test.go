package legal_test

import (
	"slices"
	"testing"

	"halation/api"
	"halation/expr"
	"halation/legal"
	"halation/nest"
	"halation/pipe"
	"halation/sched"
)

// Promise P1.

// TestAnyArguments asks for nothing but the errors of arguments of any form.
func TestAnyArguments(t *testing.T) {
	t.Parallel()
	right := 0
	for seed := range int64(400) {
		p, s, b, m := made(seed)
		p, s, b = m.Spoilt(p, s, b)
		name := []string{"f0", "out", "", "in"}[m.Intn(4)]
		stage, factor := m.Number(), m.Number()
		want, wantErr := judge(p, s, b)
		v, err := legal.Check(p, s, b)
		if v != want || err != wantErr {
			t.Fatal("Check", seed, v, err, want, wantErr)
		}
		is, err := legal.Apart(p, name, stage, "r")
		if _, wrong := pipe.Check(p); wrong != api.OK && err != wrong || err != api.OK && is {
			t.Fatal("Apart", seed, is, err)
		}
		x := nest.Stage{Func: name, Number: stage, Box: b}
		_, _, wrong := nest.Loops(p, s, x)
		is, err = legal.InOrder(p, s, x)
		if wrong != api.OK && err != wrong || err != api.OK && is {
			t.Fatal("InOrder", seed, is, err, wrong)
		}
		_, wrong = sched.CheckFor(p, s)
		l, err1 := legal.Levels(p, s, b, name)
		tails, err2 := legal.Tails(p, s, b, name, stage, "x", factor)
		kinds, err3 := legal.Kinds(p, s, b, name, stage, "x")
		for i, err := range []api.Errno{err1, err2, err3} {
			if wrong != api.OK && err != wrong || err != api.OK && []int{len(l), len(tails), len(kinds)}[i] > 0 {
				t.Fatal("choices", seed, i, err, wrong)
			}
		}
		if wantErr == api.OK {
			right++
		}
	}
	if right < 15 {
		t.Error("rare", right)
	}
}

// TestMemory changes results, and looks whether arguments change.
func TestMemory(t *testing.T) {
	p, q, b := pipeline(t, running), pipeline(t, running), box(0, 8, 0, 8)
	s := append(make(api.Schedule, 0, 64), schedule(t, "f compute_at out y; f store_root; f fold y 1; out.0 unroll x")...)
	spare := s[:cap(s)]
	spare[len(s)] = api.Directive{Func: "spare"}
	legal.Check(p, s, b)
	legal.Levels(p, s, b, "f")
	tails, _ := legal.Tails(p, s, b, "f", 0, "x", 2)
	kinds, _ := legal.Kinds(p, s, b, "f", 0, "x")
	tails[0], kinds[0] = 9, 9
	if spare[len(s)].Func != "spare" || !slices.EqualFunc(s, schedule(t, "f compute_at out y; f store_root; f fold y 1; out.0 unroll x"), func(d, e api.Directive) bool {
		return d.Op == e.Op && d.Func == e.Func && slices.Equal(d.Vars, e.Vars)
	}) {
		t.Error("the schedule was changed", s)
	}
	if !slices.EqualFunc(p.Funcs, q.Funcs, func(f, g api.Func) bool { return expr.Same(f.Value, g.Value) && slices.Equal(f.Args, g.Args) }) {
		t.Error("the pipeline was changed", p)
	}
}
