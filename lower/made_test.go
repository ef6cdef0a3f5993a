package lower_test

import (
	"fmt"
	"math/rand"
	"slices"
	"testing"

	"halation/api"
	"halation/bound"
	"halation/image"
	"halation/legal"
	"halation/loop"
	"halation/lower"
	"halation/mean"
	"halation/nest"
	"halation/run"
	"halation/sample"
	"halation/sched"
)

// Promises P20.1 to P20.3.

// TestMade lowers pipelines by schedules, compares the programs with what the document says in other words, and runs them.
func TestMade(t *testing.T) {
	t.Parallel()
	const shards = 4
	for shard := range int64(shards) {
		t.Run("", func(t *testing.T) {
			t.Parallel()
			seen := map[string]int{}
			for seed := shard; seed < 800; seed += shards {
				lowered(t, seed, seen)
			}
			for what, least := range map[string]int{"programs": 60, "refused": 5, "sites": 20, "store sites": 8, "slides": 5, "folds": 4, "guards": 4, "updates": 15, "stages": 15, "same": 60, "orders": 10, "kind 0": 100, "kind 1": 5, "kind 2": 5, "kind 3": 10, "kind 4": 1} {
				if seen[what] < least {
					t.Error("rare", what, seen)
				}
			}
		})
	}
}

func lowered(t *testing.T, seed int64, seen map[string]int) {
	p, s, b, inputs, m := made(seed)
	q, err := lower.Lower(p, s, b, inputs)
	if _, refused := legal.Check(p, s, b); refused != api.OK {
		if err != refused || len(q.Stmts) > 0 {
			t.Fatal(seed, "refused", err, refused)
		}
		seen["refused"]++
		return
	}
	if wrong := bound.CheckInputs(p, s, b, inputs); wrong != api.OK {
		if err != wrong || len(q.Stmts) > 0 {
			t.Fatal(seed, "inputs", err, wrong)
		}
		return
	}
	if err != api.OK {
		if err != api.ErrMany || len(q.Stmts) > 0 {
			t.Fatal(seed, err)
		}
		seen["long"]++
		return
	}
	seen["programs"]++
	if at, err := loop.Check(q); at != 0 || err != api.OK {
		t.Fatal(seed, "not right", at, err)
	}
	compareWritten(t, seed, seen, writtenOf(t, p, s, b, inputs), q)
	g := api.Given{}
	for i, in := range p.Inputs {
		g.Images = append(g.Images, m.Image(in.Kind, inputs[i]))
	}
	for _, x := range p.Params {
		g.Params = append(g.Params, m.Param(x))
	}
	var orders []int
	for range m.Intn(30) {
		orders = append(orders, m.Intn(1001))
	}
	realized(t, seed, seen, p, s, b, g, q, orders)
	checkLoopNames(t, seed, p, s, b, inputs, q)
}

// realized runs a program, and compares what it stores with what the pipeline means.
func realized(t *testing.T, seed int64, seen map[string]int, p api.Pipeline, s api.Schedule, b api.Box, g api.Given, q api.Program, orders []int) {
	t.Helper()
	given, err := lower.Given(p, s, b, g)
	if err != api.OK || run.CheckGiven(q, given) != api.OK {
		t.Fatal(seed, "Given", err, run.CheckGiven(q, given))
	}
	for i, im := range g.Images {
		dense, _ := image.Dense(im)
		if fmt.Sprint(dense) != fmt.Sprint(given.Images[i]) {
			t.Fatal(seed, "an image", dense, given.Images[i])
		}
	}
	if !slices.Equal(given.Params, g.Params) {
		t.Fatal(seed, "values", given.Params, g.Params)
	}
	r, err := run.Run(q, given, orders, run.MaxSteps)
	if r.Outcome == run.Steps {
		return
	}
	if r.Outcome != run.Done || slices.Contains(r.Set, false) || err != api.OK {
		t.Fatal(seed, "it ends by", r.Outcome, r.At, r.Set, err)
	}
	got, err := lower.Realize(p, s, b, g, orders, r.Steps)
	if !slices.Equal(got.Data, r.Output) || !slices.Equal(got.Box, b) || err != api.OK {
		t.Fatal(seed, "Realize", got, r.Output, err)
	}
	if im, err := lower.Realize(p, s, b, g, orders, r.Steps-1); err != api.ErrLimit || len(im.Box) > 0 {
		t.Fatal(seed, "with a step less", im, err)
	}
	if len(orders) > 0 && slices.ContainsFunc(q.Stmts, func(s api.Stmt) bool { return s.Op == api.SFor && s.Loop >= api.Tasks }) {
		seen["orders"]++
	}
	want, err := mean.Realize(p, g, b)
	if err == api.ErrBounds { // it means nothing: inlined functions do not read for what they do not use
		return
	}
	if is, _ := image.Same(got, want); !is || err != api.OK {
		text, _ := sched.Print(s)
		t.Fatal(seed, "another image", got, want, err, text)
	}
	seen["same"]++
}

// checkLoopNames gives all loops of stages new names, at last of all, which makes the same program.
func checkLoopNames(t *testing.T, seed int64, p api.Pipeline, s api.Schedule, b api.Box, inputs []api.Box, want api.Program) {
	t.Helper()
	renamed := slices.Clone(s)
	regions, _ := bound.Regions(p, s, b)
	for _, r := range regions {
		if slices.ContainsFunc(s, func(d api.Directive) bool { return d.At == r.Func }) { // others speak of its loops
			continue
		}
		box := make(api.Box, len(r.Dims))
		for i, d := range r.Dims {
			box[i].Extent = d.Asked
		}
		for stage := range 1 + api.MaxUpdates {
			n, _, _ := nest.Loops(p, s, nest.Stage{Func: r.Func, Number: stage, Box: box})
			for i, l := range n.Loops {
				d := api.Directive{Func: r.Func, Stage: stage, Op: api.Rename, Vars: []string{l.Name, fmt.Sprint("new", i)}}
				if len(renamed) < api.MaxLines {
					renamed = append(renamed, d)
				}
			}
		}
	}
	got, err := lower.Lower(p, renamed, b, inputs)
	if err != api.OK || fmt.Sprint(got) != fmt.Sprint(want) {
		text, _ := sched.Print(renamed)
		t.Fatal(seed, "with other names of loops", err, text)
	}
}

// TestRoots has no directives but ComputeRoot: there is one loop for each variable of each stage, and a buffer for each
// function.
func TestRoots(t *testing.T) {
	t.Parallel()
	programs := 0
	for seed := range int64(200) {
		m := sample.Maker{Picker: rand.New(rand.NewSource(seed))}
		p := m.Pipeline()
		if seed%2 == 0 {
			p = m.Stencils()
		}
		b := m.Box(p)
		var s api.Schedule
		for _, f := range p.Funcs[:len(p.Funcs)-1] {
			s = append(s, api.Directive{Func: f.Name, Op: api.ComputeRoot})
		}
		q, err := lower.Lower(p, s, b, boxes(p, s, b, 0))
		if err != api.OK {
			continue
		}
		programs++
		placed, _ := bound.Placed(p, s)
		loops, stages := 0, 0
		for f, fn := range placed.Funcs {
			for stage := range len(fn.Updates) + 1 {
				w := written{p: p, placed: placed}
				for _, arg := range fn.Args {
					if w.coordinate(f, stage, arg) != "t-1" {
						loops++
					}
				}
				if stage > 0 {
					loops += len(fn.Updates[stage-1].Domain)
				}
				stages++
			}
		}
		l, _ := loop.Counts(q)
		functions := len(placed.Funcs)
		if l[api.SFor] != loops || l[api.SLet] != loops || l[api.SStore] != stages || l[api.SMark] != functions || l[api.SAlloc] != functions-1 || l[api.SIf]+l[api.SAssert]+l[api.SCopy] != 0 {
			t.Fatal(seed, l, loops, stages, functions)
		}
		held, _ := lower.Buffers(p, s, b, boxes(p, s, b, 0))
		for _, h := range held[len(p.Inputs) : len(held)-1] {
			at := slices.IndexFunc(q.Stmts, func(s api.Stmt) bool { return s.Op == api.SAlloc && s.Name == h.Buffer })
			if at < 0 || int(q.Stmts[at].Exprs[0][0].Bits) != h.Storage.Elements || q.Stmts[at].Kind != h.Kind {
				t.Fatal(seed, "a buffer", h, at)
			}
		}
	}
	if programs < 100 {
		t.Error("rare", programs)
	}
}
