package run_test

import (
	"fmt"
	"maps"
	"math/rand"
	"slices"
	"testing"

	"halation/api"
	"halation/image"
	"halation/loop"
	"halation/num"
	"halation/run"
	"halation/sample"
)

// maker returns a maker for a seed.
func maker(seed int64) sample.Maker {
	return sample.Maker{Picker: rand.New(rand.NewSource(seed))}
}

// parsed returns the program of a text.
func parsed(t *testing.T, s string) api.Program {
	t.Helper()
	p, at, err := loop.Parse(s)
	if err != api.OK {
		t.Fatalf("%s: %d, %d", s, at, err)
	}
	return p
}

// event is a step: a statement is begun, a value of a loop, or an element that is loaded or stored.
type event struct {
	at     int
	begins bool
	access *run.Access
}

// fault ends a run.
type fault struct{ outcome, at int }

// story is all that a program does, in the document's words, without any limit.
type story struct {
	p      api.Program
	orders []int
	nth    int
	values map[string][]*uint64 // of the elements; those that were never stored are nil
	params map[string]api.Value
	events []event
	end    fault
}

// env is the values of the variables that are known.
type env map[string]int

func (e env) with(name string, n int) env {
	out := maps.Clone(e)
	out[name] = n
	return out
}

const tooLong = 60000

// told returns what a program does, or false if that is too much.
func told(p api.Program, g api.Given, orders []int) (s *story, ok bool) {
	s = &story{p: p, orders: orders, values: map[string][]*uint64{}, params: map[string]api.Value{}}
	for i, im := range g.Images {
		points, _ := image.Points(im.Box)
		for _, at := range points {
			v, _ := image.At(im, at)
			s.values[p.Buffers[i].Name] = append(s.values[p.Buffers[i].Name], &v.Bits)
		}
	}
	out := p.Buffers[len(p.Buffers)-1]
	size, _ := image.Size(out.Box)
	s.values[out.Name] = make([]*uint64, size)
	for i, v := range g.Params {
		s.params[p.Params[i].Name] = v
	}
	defer func() {
		switch x := recover().(type) {
		case nil:
		case fault:
			s.end = x
		case string:
			ok = false
		default:
			panic(x)
		}
	}()
	ok = true
	s.do(len(p.Stmts)-1, []env{{}})
	return s, ok
}

func (s *story) add(e event) {
	s.events = append(s.events, e)
	if len(s.events) > tooLong {
		panic("too long")
	}
}

// do does a statement in lanes: all of those of a Vector loop, or just one.
func (s *story) do(at int, lanes []env) {
	for range lanes {
		s.add(event{at: at, begins: true})
	}
	if len(lanes) == 0 {
		return
	}
	x := s.p.Stmts[at]
	numbers := func(i int) []int {
		var out []int
		for _, e := range lanes {
			v := s.eval(at, x.Exprs[i], e, nil)
			out = append(out, int(int32(v[0].Bits)))
		}
		return out
	}
	switch x.Op {
	case api.SBlock, api.SMark:
		for _, kid := range x.Kids {
			s.do(kid, lanes)
		}
	case api.SFor:
		s.loop(at, lanes, numbers)
	case api.SAlloc:
		s.values[x.Name] = make([]*uint64, x.Exprs[0][0].Bits)
		s.do(x.Kids[0], lanes)
		delete(s.values, x.Name)
	case api.SStore:
		s.store(at, lanes)
	case api.SIf:
		var yes, no []env
		for i, n := range numbers(0) {
			if n == 1 {
				yes = append(yes, lanes[i])
			} else {
				no = append(no, lanes[i])
			}
		}
		s.do(x.Kids[0], yes)
		if len(x.Kids) == 2 {
			s.do(x.Kids[1], no)
		}
	case api.SLet:
		var inner []env
		for i, n := range numbers(0) {
			inner = append(inner, lanes[i].with(x.Name, n))
		}
		s.do(x.Kids[0], inner)
	case api.SAssert:
		for _, e := range lanes {
			if s.eval(at, x.Exprs[0], e, nil)[0].Bits == 0 {
				panic(fault{run.Failed, at})
			}
		}
	}
}

func (s *story) loop(at int, lanes []env, numbers func(int) []int) {
	x := s.p.Stmts[at]
	k := 0
	if x.Loop > api.Vector {
		if s.nth < len(s.orders) {
			k = s.orders[s.nth]
		}
		s.nth++
	}
	begins, counts := numbers(0), numbers(1)
	for i := range lanes {
		if begins[i] != begins[0] || counts[i] != counts[0] {
			panic(fault{run.Uneven, at})
		}
	}
	begin, times := begins[0], counts[0]
	if times <= 0 {
		return
	}
	if begin < -1<<20 || begin+times-1 > 1<<20 {
		panic(fault{run.Range, at})
	}
	if x.Loop == api.Vector {
		var inner []env
		for v := range times {
			s.add(event{at: at})
			inner = append(inner, lanes[0].with(x.Name, begin+v))
		}
		s.do(x.Kids[0], inner)
		return
	}
	for _, v := range ordered(k, times) {
		s.add(event{at: at})
		var inner []env
		for _, e := range lanes {
			inner = append(inner, e.with(x.Name, begin+v))
		}
		s.do(x.Kids[0], inner)
	}
}

// ordered returns the order of a number: ascending, turned, and backwards if it is odd.
func ordered(k, times int) []int {
	var out []int
	for i := range times {
		out = append(out, i)
	}
	if times == 0 {
		return nil
	}
	first := k % times
	out = append(out[first:], out[:first]...)
	if k%2 == 1 {
		slices.Reverse(out[1:]) // it still begins with the same one
	}
	return out
}

func (s *story) store(at int, lanes []env) {
	x := s.p.Stmts[at]
	width := x.Exprs[0][len(x.Exprs[0])-1].Lanes
	var left []env
	var masks [][]bool
	for _, e := range lanes {
		mask, some := make([]bool, width), false
		for i := range mask {
			mask[i] = true
		}
		if len(x.Exprs) == 3 {
			for i, v := range s.eval(at, x.Exprs[2], e, nil) {
				mask[i] = v.Bits == 1
			}
		}
		for _, is := range mask {
			some = some || is
		}
		if some {
			left, masks = append(left, e), append(masks, mask)
		}
	}
	var indices, values [][]api.Value
	for i, e := range left {
		indices = append(indices, s.eval(at, x.Exprs[0], e, masks[i]))
	}
	for i, e := range left {
		values = append(values, s.eval(at, x.Exprs[1], e, masks[i]))
	}
	for i := range left {
		for lane, is := range masks[i] {
			if !is {
				continue
			}
			index, bits := int(int32(indices[i][lane].Bits)), values[i][lane].Bits
			if index < 0 || index >= len(s.values[x.Name]) {
				panic(fault{run.Bounds, at})
			}
			s.values[x.Name][index] = &bits
			s.add(event{at: at, access: &run.Access{Store: true, Buffer: x.Name, Index: index, Bits: bits, At: at}})
		}
	}
}

// eval returns the lanes of an expression; nil is the mask of an expression without one.
func (s *story) eval(at int, e api.Expr, vars env, mask []bool) []api.Value {
	values := make([][]api.Value, len(e))
	for i, n := range e {
		for lane := range n.Lanes {
			v := api.Value{Kind: n.Kind}
			if len(mask) != n.Lanes || mask[lane] {
				v = s.lane(at, e, n, lane, vars, values)
			}
			values[i] = append(values[i], v)
		}
	}
	return values[len(e)-1]
}

func must(v api.Value, err api.Errno) api.Value {
	if err != api.OK {
		panic(err)
	}
	return v
}

func (s *story) lane(at int, e api.Expr, n api.Node, lane int, vars env, values [][]api.Value) api.Value {
	kid := func(i, lane int) api.Value { return values[n.Kids[i]][lane] }
	switch n.Op {
	case api.EConst:
		return api.Value{Kind: n.Kind, Bits: n.Bits}
	case api.EVar:
		return must(num.Wrap(api.I32, int64(vars[n.Name])))
	case api.EParam:
		return s.params[n.Name]
	case api.ELoad:
		index := int(int32(kid(0, lane).Bits))
		l := s.values[n.Name]
		if index < 0 || index >= len(l) {
			panic(fault{run.Bounds, at})
		}
		if l[index] == nil {
			panic(fault{run.Unset, at})
		}
		s.add(event{at: at, access: &run.Access{Buffer: n.Name, Index: index, Bits: *l[index], At: at}})
		return api.Value{Kind: n.Kind, Bits: *l[index]}
	case api.ENot:
		return must(num.Not(kid(0, lane)))
	case api.ECast:
		return must(num.Cast(n.Kind, kid(0, lane)))
	case api.ESat:
		return must(num.Sat(n.Kind, kid(0, lane)))
	case api.ESelect:
		return must(num.Select(kid(0, lane), kid(1, lane), kid(2, lane)))
	case api.ERamp:
		out := kid(0, 0)
		for range lane {
			out = must(num.Apply(api.EAdd, out, kid(1, 0)))
		}
		return out
	case api.EBroadcast:
		return kid(0, 0)
	case api.EShuffle:
		return kid(0, n.Picks[lane])
	case api.EReduce:
		out := kid(0, 0)
		for i := 1; i < e[n.Kids[0]].Lanes; i++ {
			out = must(num.Apply(int(n.Bits), out, kid(0, i)))
		}
		return out
	}
	return must(num.Apply(n.Op, kid(0, lane), kid(1, lane)))
}

// cut is what is told of a story up to a limit.
func (s *story) cut(limit int) (run.Result, []run.Access, []int) {
	out := s.p.Buffers[len(s.p.Buffers)-1]
	size, _ := image.Size(out.Box)
	r := run.Result{Outcome: s.end.outcome, At: s.end.at, Output: make([]uint64, size), Set: make([]bool, size)}
	var l []run.Access
	visits := make([]int, len(s.p.Stmts))
	events := s.events
	if len(events) > limit {
		r.Outcome, r.At = run.Steps, events[limit].at
		events = events[:limit]
	}
	r.Steps = len(events)
	for _, e := range events {
		if e.begins {
			visits[e.at]++
		}
		if e.access == nil {
			continue
		}
		l = append(l, *e.access)
		if !e.access.Store {
			r.Loads++
			continue
		}
		r.Stores++
		if e.access.Buffer == out.Name {
			r.Output[e.access.Index], r.Set[e.access.Index] = e.access.Bits, true
		}
	}
	return r, l, visits
}

func sameResult(a, b run.Result) bool {
	return a.Outcome == b.Outcome && a.At == b.At && slices.Equal(a.Output, b.Output) && slices.Equal(a.Set, b.Set) && a.Steps == b.Steps && a.Loads == b.Loads && a.Stores == b.Stores
}

// imageErrors are what Image says of outcomes.
var imageErrors = map[int]api.Errno{run.Failed: api.ErrConflict, run.Bounds: api.ErrBounds, run.Unset: api.ErrState, run.Range: api.ErrRange, run.Uneven: api.ErrVector, run.Steps: api.ErrLimit}

// TestStories compares runs with what the document says in other words.
func TestStories(t *testing.T) {
	t.Parallel()
	const shards = 4
	for shard := range int64(shards) {
		t.Run("", func(t *testing.T) {
			t.Parallel()
			seen := map[string]int{}
			for seed := shard; seed < 6000; seed += shards {
				compareStory(t, seed, seen)
			}
			for what, least := range map[string]int{"0": 500, "1": 10, "2": 10, "3": 50, "4": 4, "5": 4, "6": 300, "image": 200, "orders": 20} {
				if seen[what] < least {
					t.Error("rare", what, seen)
				}
			}
		})
	}
}

func compareStory(t *testing.T, seed int64, seen map[string]int) {
	m := maker(seed)
	p := m.Program()
	g := m.Given(p)
	var orders []int
	for range m.Intn(6) {
		orders = append(orders, m.Intn(12))
	}
	s, ok := told(p, g, orders)
	if !ok {
		return
	}
	for _, limit := range []int{100000, m.Intn(len(s.events) + 2), len(s.events), m.Intn(40)} {
		want, wantAccesses, wantVisits := s.cut(limit)
		seen[fmt.Sprint(want.Outcome)]++
		r, err := run.Run(p, g, orders, limit)
		if err != api.OK || !sameResult(r, want) {
			t.Fatal(seed, limit, r, "not", want, err)
		}
		l, err := run.Trace(p, g, orders, limit)
		if len(wantAccesses) > 20000 {
			if err != api.ErrLimit || len(l) > 0 {
				t.Fatal(seed, "a long trace", err)
			}
		} else if err != api.OK || !slices.Equal(l, wantAccesses) {
			t.Fatal(seed, limit, l, "not", wantAccesses, err)
		}
		visits, err := run.Visits(p, g, orders, limit)
		if err != api.OK || !slices.Equal(visits, wantVisits) {
			t.Fatal(seed, limit, visits, "not", wantVisits, err)
		}
		compareImage(t, seed, p, g, orders, limit, want, seen)
	}
	if s.nth > 0 && len(orders) > 0 {
		seen["orders"]++
	}
}

func compareImage(t *testing.T, seed int64, p api.Program, g api.Given, orders []int, limit int, want run.Result, seen map[string]int) {
	t.Helper()
	out := p.Buffers[len(p.Buffers)-1]
	im, err := run.Image(p, g, orders, limit)
	wantErr := imageErrors[want.Outcome]
	if wantErr == api.OK && slices.Contains(want.Set, false) {
		wantErr = api.ErrState
	}
	if err != wantErr || err != api.OK && len(im.Data)+len(im.Box) > 0 {
		t.Fatal(seed, limit, "Image", err, wantErr)
	}
	if err != api.OK {
		return
	}
	seen["image"]++
	wanted, _ := image.Make(out.Kind, out.Box, want.Output)
	if is, _ := image.Same(im, wanted); !is || !slices.Equal(im.Strides, wanted.Strides) {
		t.Fatal(seed, "Image", im, wanted)
	}
}
