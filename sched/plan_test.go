package sched_test

import (
	"math/rand"
	"slices"
	"testing"

	"halation/api"
	"halation/sched"
)

// Promises P8.3 and P8.4.

func oraclePlan(s api.Schedule, f string) sched.Placing {
	var out sched.Placing
	isStored := false
	for _, d := range s {
		if d.Func != f {
			continue
		}
		switch rows[d.Op].word {
		case "compute_root":
			out.Compute = sched.Level{Kind: 1}
		case "compute_at":
			out.Compute = sched.Level{Kind: 2, Func: d.At, Loop: d.Vars[0]}
		case "store_root":
			out.Store, isStored = sched.Level{Kind: 1}, true
		case "store_at":
			out.Store, isStored = sched.Level{Kind: 2, Func: d.At, Loop: d.Vars[0]}, true
		case "fold":
			out.Folds = append(out.Folds, sched.Folding{Var: d.Vars[0], Factor: d.Factor})
		case "bound":
			out.Limits = append(out.Limits, sched.Limit{Var: d.Vars[0], Low: d.Low, Count: d.Factor})
		case "memoize":
			out.Memo = true
		}
	}
	if !isStored {
		out.Store = out.Compute
	}
	return out
}

func samePlacings(a, b sched.Placing) bool {
	return a.Compute == b.Compute && a.Store == b.Store && slices.Equal(a.Folds, b.Folds) && slices.Equal(a.Limits, b.Limits) && a.Memo == b.Memo
}

func oracleLoops(s api.Schedule, f string, stage int) api.Schedule {
	var out api.Schedule
	for _, d := range s {
		if d.Func == f && d.Op < api.ComputeRoot && d.Stage == stage {
			out = append(out, d)
		}
	}
	return out
}

// spoil changes everything in a schedule.
func spoil(s api.Schedule) {
	for i := range s {
		for j := range s[i].Vars {
			s[i].Vars[j] = "spoilt"
		}
		s[i] = api.Directive{Op: -1}
	}
}

// fitting makes a schedule that fits the pipeline.
func fitting(r *rand.Rand, p api.Pipeline, count int) api.Schedule {
	var names []string
	for _, f := range p.Funcs {
		names = append(names, f.Name)
	}
	var out api.Schedule
	for _, d := range makeSchedule(r, names, count) {
		if _, err := sched.CheckFor(p, append(slices.Clone(out), d)); err == api.OK {
			out = append(out, d)
		}
	}
	return out
}

func TestMadeSchedules(t *testing.T) {
	p := longer()
	names := []string{"c", "a", "e", "b", "d", "no", "split"}
	sizes := 0
	for seed := range int64(1500) {
		r := rand.New(rand.NewSource(seed))
		s := fitting(r, p, r.Intn(40))
		sizes += len(s)
		kept := parsed(t, linesOf(s)...)
		var inlined []string
		for _, f := range names {
			plan, err := sched.Plan(s, f)
			if want := oraclePlan(s, f); err != api.OK || !samePlacings(plan, want) {
				t.Fatal("Plan", seed, f, plan, want, err)
			}
			if plan.Compute.Kind == sched.Inlined && f != "d" && f != "no" && f != "split" {
				inlined = append(inlined, f)
			}
			for stage := range 4 {
				l, err := sched.Loops(s, f, stage)
				if err != api.OK || !sameSchedules(l, oracleLoops(s, f, stage)) {
					t.Fatal("Loops", seed, f, stage, l, err)
				}
				spoil(l)
			}
			without(t, seed, s, f, names)
		}
		if l, err := sched.Inlines(p, s); err != api.OK || !slices.Equal(l, inlined) {
			t.Fatal("Inlines", seed, l, inlined, err)
		}
		normal(t, seed, p, s, names)
		if len(s) > 0 {
			if _, err := sched.CheckFor(p, s[:len(s)-1]); err != api.OK {
				t.Fatal("without its last directive", seed, err)
			}
		}
		if !sameSchedules(s, kept) {
			t.Fatal("shared memory", seed)
		}
	}
	if sizes < 7500 {
		t.Error("small schedules", sizes)
	}
}

func linesOf(s api.Schedule) []string {
	var out []string
	for _, d := range s {
		out = append(out, oracleLine(d))
	}
	return out
}

func without(t *testing.T, seed int64, s api.Schedule, f string, names []string) {
	t.Helper()
	rest, err := sched.Without(s, f)
	if err != api.OK || slices.ContainsFunc(rest, func(d api.Directive) bool { return d.Func == f }) {
		t.Fatal("Without", seed, f, rest, err)
	}
	for _, g := range names {
		a, _ := sched.Plan(s, g)
		b, err := sched.Plan(rest, g)
		if g == f {
			a = sched.Placing{}
		}
		if !samePlacings(a, b) || err != api.OK {
			t.Fatal("Without", seed, f, g, a, b)
		}
		for stage := range 4 {
			a, _ := sched.Loops(s, g, stage)
			b, _ := sched.Loops(rest, g, stage)
			if g == f {
				a = nil
			}
			if !sameSchedules(a, b) {
				t.Fatal("Without", seed, f, g, stage)
			}
		}
	}
	spoil(rest)
}

func normal(t *testing.T, seed int64, p api.Pipeline, s api.Schedule, names []string) {
	t.Helper()
	n, err := sched.Normal(p, s)
	if err != api.OK {
		t.Fatal("Normal", seed, err)
	}
	var want api.Schedule
	for _, f := range p.Funcs {
		for op := api.ComputeRoot; op < api.Directives; op++ {
			for _, v := range append([]string{""}, sortedVars()...) {
				for _, d := range s {
					if d.Func == f.Name && d.Op == op && (op == api.Fold || op == api.Bound) == (v != "") && (v == "" || d.Vars[0] == v) {
						want = append(want, d)
					}
				}
			}
		}
		for stage := range 4 {
			want = append(want, oracleLoops(s, f.Name, stage)...)
		}
	}
	if !sameSchedules(n, want) {
		t.Fatal("Normal", seed, linesOf(n), linesOf(want))
	}
	for _, f := range names {
		a, _ := sched.Plan(s, f)
		b, _ := sched.Plan(n, f)
		if a.Compute != b.Compute || a.Store != b.Store || a.Memo != b.Memo || len(a.Folds) != len(b.Folds) || len(a.Limits) != len(b.Limits) {
			t.Fatal("says the same", seed, f, a, b)
		}
		for stage := range 4 {
			a, _ := sched.Loops(s, f, stage)
			b, _ := sched.Loops(n, f, stage)
			if !sameSchedules(a, b) {
				t.Fatal("says the same of loops", seed, f, stage)
			}
		}
	}
	again, err := sched.Normal(p, n)
	if err != api.OK || !sameSchedules(again, n) {
		t.Fatal("normal again", seed, err)
	}
	spoil(n)
}

func sortedVars() []string {
	out := slices.Clone(someVars)
	slices.Sort(out)
	return out
}

// TestSayErrors asks for what there is not.
func TestSayErrors(t *testing.T) {
	s := parsed(t, exampleLines...)
	for i, x := range []struct {
		f     string
		stage int
		err   api.Errno
	}{{"out", 3, api.OK}, {"out", 4, api.ErrRange}, {"out", -1, api.ErrRange}, {"", 4, api.ErrName}, {"9", 0, api.ErrName}, {"a b", 0, api.ErrName}, {"nobody", 0, api.OK}, {"nobody", 1 << 62, api.ErrRange}, {"out.0", 0, api.ErrName}} {
		if l, err := sched.Loops(s, x.f, x.stage); err != x.err || err != api.OK && l != nil {
			t.Error("Loops", i, l, err)
		}
		want := x.err
		if want == api.ErrRange {
			want = api.OK
		}
		_, e1 := sched.Plan(s, x.f)
		_, e2 := sched.Without(s, x.f)
		if e1 != want || e2 != want {
			t.Error("Plan, Without", i, e1, e2)
		}
	}
	s[5].Op = -1
	if l, err := sched.Loops(s, "", -1); l != nil || err != api.ErrUnknown {
		t.Error("a wrong schedule", err)
	}
	if _, err := sched.Inlines(api.Pipeline{}, s); err != api.ErrName {
		t.Error("a wrong pipeline", err)
	}
	if _, err := sched.Normal(example(), s); err != api.ErrUnknown {
		t.Error("a wrong schedule", err)
	}
	if l, err := sched.Normal(example(), nil); len(l) != 0 || err != api.OK {
		t.Error("no schedule", l, err)
	}
	if l, err := sched.Inlines(example(), nil); !slices.Equal(l, []string{"blur"}) || err != api.OK {
		t.Error("all is inlined", l, err)
	}
}

// TestPlans has directives of functions whose names stand in those of others.
func TestPlans(t *testing.T) {
	s := parsed(t, "f compute_at g x", "g store_at h y", "f store_root", "h compute_root", "f bound y -3 4", "f fold y 2", "f bound x 0 1", "g memoize", "f fold x 9")
	root := sched.Level{Kind: sched.AtRoot}
	for f, want := range map[string]sched.Placing{
		"f": {Compute: sched.Level{Kind: sched.AtLoop, Func: "g", Loop: "x"}, Store: root, Folds: []sched.Folding{{Var: "y", Factor: 2}, {Var: "x", Factor: 9}}, Limits: []sched.Limit{{Var: "y", Low: -3, Count: 4}, {Var: "x", Low: 0, Count: 1}}},
		"g": {Store: sched.Level{Kind: sched.AtLoop, Func: "h", Loop: "y"}, Memo: true},
		"h": {Compute: root, Store: root},
		"x": {},
	} {
		if p, err := sched.Plan(s, f); err != api.OK || !samePlacings(p, want) {
			t.Error(f, p, err)
		}
	}
}
