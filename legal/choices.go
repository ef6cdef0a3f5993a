package legal

import (
	"slices"

	"halation/api"
	"halation/bound"
	"halation/list"
	"halation/nest"
	"halation/sched"
)

// function returns the index of a function, or the first error of the request.
func (r request) function(f string) (int, api.Errno) {
	if _, err := sched.CheckFor(r.p, r.s); err != api.OK {
		return 0, err
	}
	if err := r.boxError(); err != api.OK {
		return 0, err
	}
	return find(r.p, f)
}

// isAcceptedWith reports whether a schedule is accepted with a further directive.
func (r request) isAcceptedWith(d api.Directive) bool {
	s := make(api.Schedule, len(r.s), len(r.s)+1)
	copy(s, r.s)
	_, err := Check(r.p, append(s, d), r.b)
	return err == api.OK
}

// Levels returns the levels at which a function may be computed.
func Levels(p api.Pipeline, s api.Schedule, b api.Box, f string) ([]sched.Level, api.Errno) {
	r := request{p, s, b}
	i, err := r.function(f)
	if err := list.FirstError(err, list.ErrorIf(i == len(p.Funcs)-1, api.ErrKind)); err != api.OK {
		return nil, err
	}
	levels := r.levels(p.Funcs[i+1:])
	r.s = slices.DeleteFunc(slices.Clone(s), func(d api.Directive) bool {
		return d.Func == f && d.Op >= api.ComputeRoot && d.Op <= api.Fold
	})
	var out []sched.Level
	for _, level := range levels {
		if r.isAcceptedWith(directive(f, level)) {
			out = append(out, level)
		}
	}
	return out, api.OK
}

// directive returns that which computes a function at a level.
func directive(f string, level sched.Level) api.Directive {
	if level.Kind == sched.AtRoot {
		return api.Directive{Func: f, Op: api.ComputeRoot}
	}
	return api.Directive{Func: f, Op: api.ComputeAt, At: level.Func, Vars: []string{level.Loop}}
}

// levels returns the root, and the loops of functions, as far as they are placed.
func (r request) levels(functions []api.Func) []sched.Level {
	out := []sched.Level{{Kind: sched.AtRoot}}
	c, _ := r.opened() // there are no stages, if there are no regions
	for _, fn := range functions {
		for _, s := range c.stages[fn.Name] {
			for _, l := range slices.Backward(s.Loops) {
				level := sched.Level{Kind: sched.AtLoop, Func: fn.Name, Loop: l.Name}
				if !slices.Contains(out, level) {
					out = append(out, level)
				}
			}
		}
	}
	return out
}

// loopError returns the error of a loop of a stage that is asked about.
func (r request) loopError(f string, stage int, loop string) api.Errno {
	i, err := r.function(f)
	if err != api.OK {
		return err
	}
	if stage < 0 || stage > len(r.p.Funcs[i].Updates) {
		return api.ErrRange
	}
	regions, err := bound.Regions(r.p, r.s, r.b)
	if err != api.OK {
		return err
	}
	at := slices.IndexFunc(regions, func(x bound.Region) bool { return x.Func == f })
	if at < 0 {
		return api.ErrUnknown
	}
	n, _, _ := nest.Loops(r.p, r.s, asked(regions[at], stage))
	isThere := slices.ContainsFunc(n.Loops, func(l nest.Loop) bool { return l.Name == loop })
	return list.ErrorIf(!isThere, api.ErrUnknown)
}

// Tails returns the tails by which a loop may be split.
func Tails(p api.Pipeline, s api.Schedule, b api.Box, f string, stage int, loop string, factor int) ([]int, api.Errno) {
	r := request{p, s, b}
	err := list.FirstError(r.loopError(f, stage, loop), list.ErrorIf(factor < 1 || factor > api.MaxFactor, api.ErrRange))
	if err != api.OK {
		return nil, err
	}
	split := api.Directive{Func: f, Stage: stage, Op: api.Split, Vars: []string{loop, "u_o", "u_i"}, Factor: factor}
	var out []int
	for split.Tail = range api.Tails {
		if r.isAcceptedWith(split) {
			out = append(out, split.Tail)
		}
	}
	return out, api.OK
}

// Kinds returns the kinds that a loop may be.
func Kinds(p api.Pipeline, s api.Schedule, b api.Box, f string, stage int, loop string) ([]int, api.Errno) {
	r := request{p, s, b}
	if err := r.loopError(f, stage, loop); err != api.OK {
		return nil, err
	}
	ops := [api.Loops]int{api.Unrolled: api.Unroll, api.Vector: api.Vectorize, api.Tasks: api.Parallel, api.Grid: api.Blocks, api.Lane: api.Threads}
	var out []int
	for kind := api.Unrolled; kind < api.Loops; kind++ {
		if r.isAcceptedWith(api.Directive{Func: f, Stage: stage, Op: ops[kind], Vars: []string{loop}}) {
			out = append(out, kind)
		}
	}
	return out, api.OK
}
