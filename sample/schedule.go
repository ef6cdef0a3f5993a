package sample

import (
	"slices"

	"halation/api"
	"halation/nest"
	"halation/site"
)

// planning is a schedule that is being made.
type planning struct {
	Maker
	p api.Pipeline
	s api.Schedule
}

// Schedule returns a schedule for a pipeline, of which most beginnings are to be kept.
func (m Maker) Schedule(p api.Pipeline, keep func(api.Schedule) bool) api.Schedule {
	x := &planning{m, p, nil}
	for _, fn := range slices.Backward(p.Funcs[:len(p.Funcs)-1]) {
		if len(fn.Updates) == 0 && m.Intn(4) == 0 { // it is inlined
			continue
		}
		if !x.add(x.placed(fn), keep) {
			x.add(api.Directive{Func: fn.Name, Op: api.ComputeRoot}, keep)
		}
	}
	for range m.Intn(8) {
		x.add(x.directive(), keep)
	}
	for _, fn := range p.Funcs[:len(p.Funcs)-1] { // loops may have gone to which functions were moved
		for range m.Intn(3) {
			x.add(x.about(fn), keep)
		}
	}
	return x.s
}

// add adds a directive, if the schedule is to be kept, and reports whether it is.
func (x *planning) add(d api.Directive, keep func(api.Schedule) bool) bool {
	s := append(slices.Clone(x.s), d)
	if !keep(s) {
		return false
	}
	x.s = s
	return true
}

// loops returns the names of the loops of a stage, the innermost first. Boxes hardly matter for that.
func (x *planning) loops(fn api.Func, stage int) []string {
	extents := make([]int, len(fn.Args))
	for i := range extents {
		extents[i] = 8
	}
	n, _, _ := nest.Loops(x.p, x.s, nest.Stage{Func: fn.Name, Number: stage, Box: site.Box(extents)})
	var out []string
	for _, l := range n.Loops {
		out = append(out, l.Name)
	}
	return out
}

// level returns the name of a later function, and of a loop of one of its stages.
func (x *planning) level(fn api.Func) (string, string) {
	at := slices.IndexFunc(x.p.Funcs, func(f api.Func) bool { return f.Name == fn.Name })
	later := x.p.Funcs[min(at+1, len(x.p.Funcs)-1):] // the last one has only itself
	g := later[x.Intn(min(2, len(later)))]
	if x.Intn(4) == 0 {
		g = later[len(later)-1]
	}
	stage := 0
	if x.Intn(3) == 0 {
		stage = x.Intn(len(g.Updates) + 1)
	}
	if l := x.loops(g, stage); len(l) > 0 {
		return g.Name, one(x.Maker, l...)
	}
	return g.Name, "x"
}

// placed returns where a function is computed.
func (x *planning) placed(fn api.Func) api.Directive {
	if x.Intn(3) == 0 {
		return api.Directive{Func: fn.Name, Op: api.ComputeRoot}
	}
	g, loop := x.level(fn)
	return api.Directive{Func: fn.Name, Op: api.ComputeAt, At: g, Vars: []string{loop}}
}

// about returns something else about a function.
func (x *planning) about(fn api.Func) api.Directive {
	d := api.Directive{Func: fn.Name, Op: one(x.Maker, api.StoreRoot, api.StoreRoot, api.StoreRoot, api.StoreAt, api.StoreAt, api.Fold, api.Fold, api.Bound, api.Memoize)}
	switch d.Op {
	case api.StoreAt:
		var loop string
		d.At, loop = x.level(fn)
		d.Vars = []string{loop}
	case api.Fold:
		d.Vars, d.Factor = []string{one(x.Maker, fn.Args...)}, 1+x.Intn(10)
	case api.Bound:
		d.Vars, d.Low, d.Factor = []string{one(x.Maker, fn.Args...)}, one(x.Maker, -10, -3, 0, 1), one(x.Maker, 4, 8, 32, 64)
	}
	return d
}

// directive returns one about the loops of a stage, or about a function.
func (x *planning) directive() api.Directive {
	fn := one(x.Maker, x.p.Funcs...)
	if x.Intn(2) == 0 {
		fn = x.p.Funcs[len(x.p.Funcs)-1]
	} else if x.Intn(3) == 0 {
		return x.about(fn)
	}
	d := api.Directive{Func: fn.Name, Stage: x.Intn(len(fn.Updates) + 1)}
	l := x.loops(fn, d.Stage)
	if len(l) == 0 {
		return x.about(fn)
	}
	i := x.Intn(len(l))
	v := l[i]
	d.Vars = []string{v}
	switch d.Op = one(x.Maker, api.Split, api.Split, api.Split, api.Split, api.Fuse, api.Reorder, api.Reorder, api.Rename, api.Unroll, api.Vectorize, api.Parallel, api.Parallel, api.Blocks, api.Threads); d.Op {
	case api.Split:
		d.Vars = append(d.Vars, v+"o", one(x.Maker, v+"i", v+"i", "s0"))
		d.Factor, d.Tail = one(x.Maker, 1, 2, 2, 3, 4), x.Intn(api.Tails)
	case api.Fuse:
		d.Vars = []string{v, l[min(i+1, len(l)-1)], "t" + v}
	case api.Reorder:
		w := one(x.Maker, l...)
		d.Vars = []string{w, v}
	case api.Rename:
		d.Vars = append(d.Vars, one(x.Maker, "s0", "s1", "u", v+"n"))
	}
	return d
}
