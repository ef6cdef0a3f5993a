package legal_test

import (
	"math/rand"
	"slices"
	"strconv"
	"testing"

	"halation/affine"
	"halation/api"
	"halation/bound"
	"halation/expr"
	"halation/image"
	"halation/legal"
	"halation/nest"
	"halation/pipe"
	"halation/sample"
	"halation/sched"
	"halation/window"
)

// made returns a pipeline, a schedule and a box, which have regions more often than not.
func made(seed int64) (api.Pipeline, api.Schedule, api.Box, sample.Maker) {
	m := sample.Maker{Picker: rand.New(rand.NewSource(seed))}
	p := m.Pipeline()
	if m.Intn(2) == 0 {
		p = m.Stencils()
	}
	b := m.Box(p)
	if m.Intn(20) == 0 {
		b[m.Intn(len(b))].Extent = 0
	}
	return p, m.Schedule(p, func(s api.Schedule) bool {
		if _, err := sched.CheckFor(p, s); err != api.OK {
			return false
		}
		_, err := bound.Regions(p, s, b)
		return err == api.OK || err == api.ErrState || m.Intn(60) == 0
	}), b, m
}

// part returns the expression of a node.
func part(e api.Expr, node int) api.Expr {
	out, err := expr.Sub(e, node)
	if err != api.OK {
		panic(err)
	}
	return out
}

// apart reports in the document's words whether the iterations of an axis never meet.
func apart(f api.Func, stage int, axis string) bool {
	u := f.Updates[stage-1]
	for i, left := range u.Left {
		if len(left) == 1 && left[0].Op == api.EVar && left[0].Name == f.Args[i] {
			continue
		}
		form, err := affine.Of(left)
		if err != api.OK || len(form.Terms) != 1 || len(form.Terms[0].Atom) != 1 {
			continue
		}
		t := form.Terms[0]
		ok := t.Atom[0].Op == api.EVar && t.Atom[0].Name == axis && t.Coeff <= api.MaxCoord && t.Coeff >= -api.MaxCoord
		for _, e := range append(append(slices.Clone(u.Left), u.Value), u.Where) {
			for _, n := range e {
				if n.Op == api.ECall && n.Name == f.Name {
					ok = ok && expr.Same(part(e, n.Kids[i]), left)
				}
			}
		}
		if ok {
			return true
		}
	}
	return false
}

// inOrder asks nest.Meets for the points of a domain that are met. A box without points has no values to ask for, but the
// domain does not depend on it.
func inOrder(p api.Pipeline, s api.Schedule, x nest.Stage) (bool, api.Errno) {
	if slices.ContainsFunc(x.Box, func(r api.Range) bool { return r.Extent == 0 }) {
		return legal.InOrder(p, s, x)
	}
	n, _, err := nest.Loops(p, s, x)
	if err != api.OK {
		return false, err
	}
	count := 1
	for _, l := range n.Loops {
		if l.Domain {
			count *= l.Extent
		}
		if count > 4096 {
			return false, api.ErrLimit
		}
	}
	var met [][]int
	for k := range count {
		values := make([]int, len(n.Loops))
		rest := k
		for i, l := range n.Loops {
			if l.Domain {
				values[i] = rest % l.Extent
				rest /= l.Extent
			}
		}
		offsets, holds, err := nest.Meets(p, s, x, values)
		if err != api.OK {
			panic(err)
		}
		if holds {
			met = append(met, offsets)
		}
	}
	var want [][]int
	want = append(want, nil)
	for _, a := range slices.Backward(n.Axes) { // the first axis of the domain goes fastest
		var next [][]int
		for _, w := range want {
			extent := a.Extent
			if a.Dim >= 0 {
				extent = 1
			}
			for v := range extent {
				next = append(next, append([]int{v}, w...))
			}
		}
		want = next
	}
	return slices.EqualFunc(met, want, slices.Equal[[]int]), api.OK
}

// judge refuses a schedule in the document's words.
func judge(p api.Pipeline, s api.Schedule, b api.Box) (legal.Verdict, api.Errno) {
	none := legal.Verdict{}
	if _, err := pipe.Check(p); err != api.OK {
		return none, err
	}
	if len(s) > 64 {
		return none, api.ErrMany
	}
	if i, err := sched.CheckFor(p, s); err != api.OK {
		return legal.Verdict{Func: s[i].Func, Stage: s[i].Stage}, err
	}
	if err := image.CheckBox(b); err != api.OK {
		return none, err
	}
	last := p.Funcs[len(p.Funcs)-1]
	if len(b) != len(last.Args) {
		return none, api.ErrDims
	}
	for _, f := range p.Funcs[:len(p.Funcs)-1] {
		if placing, _ := sched.Plan(s, f.Name); placing.Compute.Kind == sched.Inlined && len(f.Updates) > 0 {
			return legal.Verdict{Func: f.Name, Stage: -1}, api.ErrState
		}
	}
	regions, err := bound.Regions(p, s, b)
	if err != api.OK {
		return none, err
	}
	placed, _ := bound.Placed(p, s)
	nests := map[string][]nest.Nest{}
	stages := map[string][]nest.Stage{}
	for i, f := range placed.Funcs {
		for k := range len(f.Updates) + 1 {
			x := nest.Stage{Func: f.Name, Number: k}
			for _, d := range regions[i].Dims {
				x.Box = append(x.Box, api.Range{Extent: d.Asked})
			}
			n, _, _ := nest.Loops(p, s, x)
			nests[f.Name], stages[f.Name] = append(nests[f.Name], n), append(stages[f.Name], x)
		}
	}
	kind := func(l bound.Loop) int {
		for _, own := range nests[l.Func][l.Stage].Loops {
			if own.Name == l.Name {
				return own.Kind
			}
		}
		panic("kind")
	}
	for i, f := range placed.Funcs {
		if err := whole(p, s, b, f, regions[i], kind); err != api.OK {
			return legal.Verdict{Func: f.Name, Stage: -1}, err
		}
		for k, n := range nests[f.Name] {
			v := legal.Verdict{Func: f.Name, Stage: k}
			path, _ := bound.Path(p, s, b, f.Name, k)
			if len(path) > 24 {
				return v, api.ErrMany
			}
			ordered, err := inOrder(p, s, stages[f.Name][k])
			if err != api.OK {
				return v, err
			}
			meets := map[string]bool{} // the axes that are not apart
			for _, a := range n.Axes {
				if a.Dim < 0 && !apart(f, k, a.Name) {
					meets[a.Name] = true
				}
			}
			if !ordered && len(meets) > 0 {
				return v, api.ErrOrder
			}
			for at := len(n.Loops) - 1; at >= 0; at-- {
				l := n.Loops[at]
				v.Loop = l.Name
				if l.Kind >= api.Vector {
					for j, a := range n.Axes {
						names, _ := expr.Free(n.Offsets[j])
						if meets[a.Name] && slices.Contains(names, l.Name) {
							return v, api.ErrRace
						}
					}
				}
				for _, inner := range n.Loops[:at] {
					if l.Kind == api.Vector && inner.Kind != api.Serial && inner.Kind != api.Unrolled {
						return v, api.ErrVector
					}
				}
				if l.Kind == api.Unrolled && l.Extent > 64 {
					return v, api.ErrLarge
				}
				grids := 0
				for _, outer := range path[:len(path)-1-at] {
					if kind(outer) == api.Grid {
						grids++
					}
				}
				if (l.Kind == api.Grid || l.Kind == api.Tasks) && grids > 0 || l.Kind == api.Lane && grids == 0 {
					return v, api.ErrLevel
				}
			}
		}
	}
	return none, api.OK
}

// whole refuses a function as a whole.
func whole(p api.Pipeline, s api.Schedule, b api.Box, f api.Func, r bound.Region, kind func(bound.Loop) int) api.Errno {
	placing, _ := sched.Plan(s, f.Name)
	isLast := f.Name == p.Funcs[len(p.Funcs)-1].Name
	if isLast {
		for _, d := range r.Dims {
			if d.Extent != d.Asked {
				return api.ErrTail
			}
		}
		for i, d := range r.Dims {
			if len(d.Min.Terms) > 0 || d.Min.Const != b[i].Min || d.Asked != b[i].Extent {
				return api.ErrBounds
			}
		}
	}
	if placing.Memo && (isLast || placing.Compute.Kind != sched.AtRoot) {
		return api.ErrState
	}
	for _, l := range r.Site {
		if kind(l) == api.Vector {
			return api.ErrLevel
		}
	}
	if _, err := window.Stored(p, s, b, f.Name); err != api.OK {
		return err
	}
	between, _ := window.Between(p, s, b, f.Name)
	for _, l := range between {
		if l.Kind == api.Tasks || l.Kind == api.Grid || l.Kind == api.Lane {
			return api.ErrRace
		}
	}
	for _, fold := range placing.Folds {
		least, err := window.LeastFold(p, s, b, f.Name, fold.Var)
		if err != api.OK {
			return err
		}
		if fold.Factor < least {
			return api.ErrFold
		}
	}
	return api.OK
}

// Promises P17.2 and P17.4.

func TestCheckMade(t *testing.T) {
	t.Parallel()
	seen := map[string]int{}
	for seed := range int64(1000) {
		p, s, b, m := made(seed)
		v, err := legal.Check(p, s, b)
		want, wantErr := judge(p, s, b)
		if v != want || err != wantErr {
			t.Fatal(seed, v, err, want, wantErr)
		}
		what := strconv.Itoa(int(err))
		if v.Func != "" && v.Stage >= 0 {
			what += " stage"
		}
		if v.Loop != "" {
			what += " loop"
		}
		seen[what]++
		if err != api.OK {
			continue
		}
		normal, _ := sched.Normal(p, s)
		if v, err := legal.Check(p, normal, b); err != api.OK {
			t.Fatal("in normal order", seed, v, err)
		}
		if renamed, ok := renamed(p, s, b, m); ok {
			seen["renamed"]++
			if v, err := legal.Check(p, renamed, b); err != api.OK {
				t.Fatal("with other names", seed, renamed, v, err)
			}
		}
	}
	for what, least := range map[string]int{"0": 200, "renamed": 150, "14": 5, "17": 10, "17 stage loop": 5, "18": 5, "19": 5, "19 stage loop": 20, "20": 1, "28": 20, "21 stage loop": 1} {
		if seen[what] < least {
			t.Error("rare", what, seen)
		}
	}
}

// renamed returns a schedule with a new name for a loop.
func renamed(p api.Pipeline, s api.Schedule, b api.Box, m sample.Maker) (api.Schedule, bool) {
	placed, _ := bound.Placed(p, s)
	f := placed.Funcs[m.Intn(len(placed.Funcs))]
	stage := m.Intn(len(f.Updates) + 1)
	path, _ := bound.Path(p, s, b, f.Name, stage)
	if len(path) == 0 || len(s) == 64 {
		return nil, false
	}
	l := path[len(path)-1]
	if l.Func != f.Name {
		return nil, false
	}
	out := append(slices.Clone(s), api.Directive{Func: f.Name, Stage: stage, Op: api.Rename, Vars: []string{l.Name, "new"}})
	for i, d := range out {
		if d.At == f.Name && d.Vars[0] == l.Name {
			if len(f.Updates) > 0 { // another stage may have the loop
				return nil, false
			}
			out[i].Vars = []string{"new"}
		}
	}
	return out, true
}

// TestRoots asks whether schedules of roots are accepted.
func TestRoots(t *testing.T) {
	t.Parallel()
	accepted := 0
	for seed := range int64(600) {
		p, _, b, _ := made(seed)
		var s api.Schedule
		for _, f := range p.Funcs[:len(p.Funcs)-1] {
			s = append(s, api.Directive{Func: f.Name, Op: api.ComputeRoot})
		}
		regions, err := bound.Regions(p, s, b)
		if err != api.OK {
			continue
		}
		isBox := true
		for i, d := range regions[len(regions)-1].Dims {
			isBox = isBox && d.Min.Const == b[i].Min && d.Asked == b[i].Extent && d.Extent == b[i].Extent
		}
		if v, err := legal.Check(p, s, b); isBox && err != api.OK || !isBox && err == api.OK {
			t.Fatal(seed, v, err, isBox)
		}
		accepted++
	}
	if accepted < 200 {
		t.Error("rare", accepted)
	}
}

// Promise P17.1.

// isRead reports whether an expression reads something.
func isRead(e api.Expr) bool {
	return slices.ContainsFunc(e, func(n api.Node) bool { return n.Op == api.ECall || n.Op == api.EImage || n.Op == api.EParam })
}

// TestApartMade compares what is stored and read at two points of a domain, as far as nothing else is read for that.
func TestApartMade(t *testing.T) {
	t.Parallel()
	seen := map[bool]int{}
	for seed := range int64(1000) {
		m := sample.Maker{Picker: rand.New(rand.NewSource(seed))}
		p := m.Pipeline()
		for _, f := range p.Funcs {
			for k, u := range f.Updates {
				for _, a := range u.Domain {
					is, err := legal.Apart(p, f.Name, k+1, a.Name)
					if is != apart(f, k+1, a.Name) || err != api.OK {
						t.Fatal(seed, f.Name, k+1, a.Name, is, err)
					}
					seen[is]++
					for range 20 {
						if is {
							meet(t, seed, m, f, u, a)
						}
					}
				}
			}
		}
	}
	if seen[true] < 100 || seen[false] < 300 {
		t.Error("rare", seen)
	}
}

// meet asks whether two iterations of an axis meet.
func meet(t *testing.T, seed int64, m sample.Maker, f api.Func, u api.Update, axis api.Axis) {
	var values [2][]expr.Binding
	for i := range values {
		bind := func(name string, v int) {
			values[i] = append(values[i], expr.Binding{Name: name, Value: api.Value{Kind: api.I32, Bits: uint64(uint32(int32(v)))}})
		}
		for k, arg := range f.Args {
			bind(arg, k) // the same in both
		}
		for _, a := range u.Domain {
			bind(a.Name, a.Min+m.Intn(a.Extent))
		}
	}
	at := slices.IndexFunc(values[0], func(b expr.Binding) bool { return b.Name == axis.Name })
	if values[0][at] == values[1][at] {
		return
	}
	// differs reports whether two lists of coordinates are of different points
	differs := func(a, b []api.Expr) bool {
		for i := range a {
			if isRead(a[i]) || isRead(b[i]) {
				continue
			}
			v, err := expr.Eval(a[i], values[0])
			w, err2 := expr.Eval(b[i], values[1])
			if err != api.OK || err2 != api.OK {
				t.Fatal(seed, err, err2)
			}
			if v[0] != w[0] {
				return true
			}
		}
		return false
	}
	if !differs(u.Left, u.Left) {
		t.Fatal("two iterations store to one point", seed, f.Name, axis)
	}
	for _, e := range append(append(slices.Clone(u.Left), u.Value), u.Where) {
		for _, n := range e {
			if n.Op != api.ECall || n.Name != f.Name {
				continue
			}
			var call []api.Expr
			for _, kid := range n.Kids {
				call = append(call, part(e, kid))
			}
			if !differs(call, u.Left) {
				t.Fatal("an iteration reads what another one stores", seed, f.Name, axis)
			}
		}
	}
}

func TestInOrderMade(t *testing.T) {
	t.Parallel()
	p := pipeline(t, "func f(x, y) i32 = x\nover r 1 6\nover q 0 4\nset r, y = 1\nover r 0 7\nset x, 0 = 2\nfunc out(x, y) i32 = f(x, y)")
	seen := map[bool]int{}
	for seed := range int64(1500) {
		m := rand.New(rand.NewSource(seed))
		x := nest.Stage{Func: "f", Number: m.Intn(3), Box: box(0, 1+m.Intn(5), 3, m.Intn(6))}
		var s api.Schedule
		for range m.Intn(6) {
			n, _, _ := nest.Loops(p, s, x)
			at := m.Intn(len(n.Loops))
			v, w := n.Loops[at].Name, n.Loops[m.Intn(len(n.Loops))].Name
			d := api.Directive{Func: "f", Stage: x.Number, Op: api.Reorder, Vars: []string{v, w}}
			switch m.Intn(5) {
			case 0, 1:
				d.Op, d.Vars, d.Factor, d.Tail = api.Split, []string{v, v + "o", v + "i"}, 1+m.Intn(4), api.Guard
			case 2:
				d.Op, d.Vars = api.Fuse, []string{v, n.Loops[min(at+1, len(n.Loops)-1)].Name, "t" + v}
			}
			if _, _, err := nest.Loops(p, append(slices.Clone(s), d), x); err == api.OK {
				s = append(s, d)
			}
		}
		want, wantErr := inOrder(p, s, x)
		is, err := legal.InOrder(p, s, x)
		if err != wantErr || is != want {
			t.Fatal(seed, x, s, is, err, want, wantErr)
		}
		if x.Number > 0 {
			seen[is]++
		}
	}
	if seen[true] < 200 || seen[false] < 100 {
		t.Error("rare", seen)
	}
}

// Promise P17.3.

func TestChoicesMade(t *testing.T) {
	t.Parallel()
	seen := map[string]int{}
	for seed := range int64(110) {
		p, s, b, m := made(seed)
		regions, regionErr := bound.Regions(p, s, b)
		for i, f := range p.Funcs {
			levels(t, seed, p, s, b, i, regions, seen)
			stage := m.Intn(len(f.Updates) + 1)
			loop := "nowhere"
			wantErr := regionErr
			at := slices.IndexFunc(regions, func(r bound.Region) bool { return r.Func == f.Name })
			if wantErr == api.OK && at < 0 {
				wantErr = api.ErrUnknown
			}
			if wantErr == api.OK {
				path, _ := bound.Path(p, s, b, f.Name, stage)
				if own := path[len(regions[at].Site):]; len(own) > 0 {
					loop = own[m.Intn(len(own))].Name
				} else {
					wantErr = api.ErrUnknown
				}
			}
			factor := 1 + m.Intn(5)
			var tails, kinds []int
			for tail := 0; tail < 4 && wantErr == api.OK; tail++ {
				more := append(slices.Clone(s), api.Directive{Func: f.Name, Stage: stage, Op: api.Split, Vars: []string{loop, "u_o", "u_i"}, Factor: factor, Tail: tail})
				if _, err := judge(p, more, b); err == api.OK {
					tails = append(tails, tail)
				}
			}
			for k, op := range []int{api.Unroll, api.Vectorize, api.Parallel, api.Blocks, api.Threads} {
				more := append(slices.Clone(s), api.Directive{Func: f.Name, Stage: stage, Op: op, Vars: []string{loop}})
				if _, err := judge(p, more, b); err == api.OK && wantErr == api.OK {
					kinds = append(kinds, k+1)
				}
			}
			gotTails, err := legal.Tails(p, s, b, f.Name, stage, loop, factor)
			gotKinds, err2 := legal.Kinds(p, s, b, f.Name, stage, loop)
			if !slices.Equal(gotTails, tails) || err != wantErr || !slices.Equal(gotKinds, kinds) || err2 != wantErr {
				t.Fatal(seed, f.Name, stage, loop, factor, gotTails, err, gotKinds, err2, tails, kinds, wantErr)
			}
			seen["error "+strconv.Itoa(int(wantErr))]++
			for _, tail := range tails {
				seen["tail "+strconv.Itoa(tail)]++
			}
			for _, kind := range kinds {
				seen["kind "+strconv.Itoa(kind)]++
			}
		}
	}
	for _, what := range []string{"error 0", "error 8", "tail 0", "tail 1", "tail 2", "tail 3", "kind 1", "kind 2", "kind 3", "kind 4", "root", "loop", "refused"} {
		if seen[what] < 2 {
			t.Error("rare", what, seen)
		}
	}
}

// levels asks for those of a function.
func levels(t *testing.T, seed int64, p api.Pipeline, s api.Schedule, b api.Box, at int, regions []bound.Region, seen map[string]int) {
	f := p.Funcs[at]
	l, err := legal.Levels(p, s, b, f.Name)
	if at == len(p.Funcs)-1 {
		if err != api.ErrKind || len(l) > 0 {
			t.Fatal(seed, f.Name, l, err)
		}
		return
	}
	var rest api.Schedule
	for _, d := range s {
		if d.Func != f.Name || d.Op < api.ComputeRoot || d.Op == api.Bound || d.Op == api.Memoize {
			rest = append(rest, d)
		}
	}
	asked := []sched.Level{{Kind: sched.AtRoot}}
	for _, g := range p.Funcs[at+1:] {
		for _, r := range regions {
			for stage := 0; r.Func == g.Name && stage <= len(g.Updates); stage++ {
				path, _ := bound.Path(p, s, b, g.Name, stage)
				for _, loop := range path[len(r.Site):] {
					asked = append(asked, sched.Level{Kind: sched.AtLoop, Func: g.Name, Loop: loop.Name})
				}
			}
		}
	}
	var want []sched.Level
	for i, level := range asked {
		if slices.Contains(asked[:i], level) {
			continue
		}
		d := api.Directive{Func: f.Name, Op: api.ComputeRoot}
		if level.Kind == sched.AtLoop {
			d = api.Directive{Func: f.Name, Op: api.ComputeAt, At: level.Func, Vars: []string{level.Loop}}
		}
		_, err := judge(p, append(slices.Clone(rest), d), b)
		switch {
		case err != api.OK:
			seen["refused"]++
			continue
		case level.Kind == sched.AtRoot:
			seen["root"]++
		default:
			seen["loop"]++
		}
		want = append(want, level)
	}
	if !slices.Equal(l, want) || err != api.OK {
		t.Fatal("Levels", seed, f.Name, l, err, want)
	}
}
