package nest_test

import (
	"math"
	"math/rand"
	"testing"

	"halation/api"
	"halation/nest"
	"halation/pipe"
	"halation/sched"
)

// anyInt returns a number that is often not right.
func anyInt(r *rand.Rand) int {
	return []int{-1, 0, 1, 2, 3, r.Intn(70), math.MaxInt, math.MinInt, api.MaxCoord + 1, -r.Intn(9)}[r.Intn(10)]
}

// spoil changes some fields of a pipeline, a schedule and a stage.
func spoil(r *rand.Rand, p *api.Pipeline, s api.Schedule, x *nest.Stage) {
	f := &p.Funcs[r.Intn(len(p.Funcs))]
	switch r.Intn(10) {
	case 0:
		f.Args = f.Args[:r.Intn(len(f.Args)+1)]
	case 1:
		f.Kind = anyInt(r)
	case 2:
		for i := range f.Updates {
			f.Updates[i].Left = f.Updates[i].Left[:r.Intn(2)]
		}
	case 3:
		for i := range f.Updates {
			f.Updates[i].Domain = append(f.Updates[i].Domain, api.Axis{Name: "q", Range: api.Range{Extent: anyInt(r)}})
		}
	case 4:
		p.Funcs = p.Funcs[:r.Intn(len(p.Funcs))]
	}
	for range r.Intn(3) {
		if len(s) == 0 {
			break
		}
		d := &s[r.Intn(len(s))]
		switch r.Intn(5) {
		case 0:
			d.Op = anyInt(r)
		case 1:
			d.Vars = d.Vars[:r.Intn(len(d.Vars)+1)]
		case 2:
			d.Factor = anyInt(r)
		case 3:
			d.Tail = anyInt(r)
		case 4:
			d.Stage = anyInt(r)
		}
	}
	switch r.Intn(5) {
	case 0:
		x.Func = []string{"", "in", "f"}[r.Intn(3)]
	case 1:
		x.Number = anyInt(r)
	case 2:
		x.Box = x.Box[:r.Intn(len(x.Box)+1)]
	case 3:
		x.Box[r.Intn(len(x.Box))] = api.Range{Min: anyInt(r), Extent: anyInt(r)}
	}
}

// TestAnyArguments asks for nothing but the errors of arguments of any form.
func TestAnyArguments(t *testing.T) {
	right := 0
	for seed := range int64(2000) {
		p := pipeline(t)
		m := maker{rand.New(rand.NewSource(seed))}
		x := m.stage(p)
		s := m.schedule(p, x)
		spoil(m.Rand, &p, s, &x)
		_, want := pipe.Check(p)
		axes, err := nest.Axes(p, x)
		if want != api.OK && (err != want || len(axes) > 0) {
			t.Fatal("Axes", seed, axes, err, want)
		}
		if want = err; want == api.OK {
			_, want = sched.CheckFor(p, s)
		}
		if want == api.OK {
			_, _, want = made(p, s, x)
		}
		if want != api.OK {
			allFail(t, p, s, x, want)
			continue
		}
		right++
		values := []int{anyInt(m.Rand), anyInt(m.Rand)}
		if offsets, holds, err := nest.Meets(p, s, x, values); err != api.OK && (len(offsets) > 0 || holds) {
			t.Fatal("Meets", seed, values, offsets, holds, err)
		}
		if n, err := nest.Times(p, s, x, values); err != api.OK && n != 0 {
			t.Fatal("Times", seed, values, n, err)
		}
	}
	if right < 50 {
		t.Error("rare", right)
	}
}
