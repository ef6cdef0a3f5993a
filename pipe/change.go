package pipe

import (
	"slices"

	"halation/api"
	"halation/list"
	"halation/param"
)

// rewritten returns a copy of a pipeline, which shares no memory with it, with each expression rewritten.
func rewritten(p api.Pipeline, rewrite func(api.Expr) api.Expr) api.Pipeline {
	p.Inputs = slices.Clone(p.Inputs)
	p.Params = slices.Clone(p.Params)
	p.Funcs = list.Map(p.Funcs, func(f api.Func) api.Func {
		f.Args = slices.Clone(f.Args)
		f.Value = rewrite(f.Value)
		f.Updates = list.Map(f.Updates, func(u api.Update) api.Update {
			return api.Update{Left: list.Map(u.Left, rewrite), Value: rewrite(u.Value), Domain: slices.Clone(u.Domain), Where: rewrite(u.Where)}
		})
		return f
	})
	return p
}

// withNodes returns a copy of a pipeline with each node of its expressions changed.
func withNodes(p api.Pipeline, change func(api.Node) api.Node) api.Pipeline {
	return rewritten(p, func(e api.Expr) api.Expr {
		out := make(api.Expr, len(e))
		copy(out, e)
		for i, n := range out {
			n.Kids, n.Picks = slices.Clone(n.Kids), slices.Clone(n.Picks)
			out[i] = change(n)
		}
		return out
	})
}

func itself(n api.Node) api.Node {
	return n
}

// Prune returns a pipeline without its dead functions.
func Prune(p api.Pipeline) (api.Pipeline, api.Errno) {
	if _, err := Check(p); err != api.OK {
		return api.Pipeline{}, err
	}
	needed := graph(p).needed()
	out := withNodes(p, itself)
	var funcs []api.Func
	for f, fn := range out.Funcs {
		if needed[f] {
			funcs = append(funcs, fn)
		}
	}
	out.Funcs = funcs
	return out, api.OK
}

// opOf returns the Op of the nodes that have a name of a sort.
func opOf(sort int) int {
	ops := [...]int{AnInput: api.EImage, AParam: api.EParam, AFunc: api.ECall}
	return ops[sort]
}

// Renamed returns a pipeline with another name for an input, a parameter or a function.
func Renamed(p api.Pipeline, from, to string) (api.Pipeline, api.Errno) {
	sort, index, err := Find(p, from)
	if err != api.OK {
		return api.Pipeline{}, err
	}
	if err := namesOf(p).add(to, named{}); err != api.OK {
		return api.Pipeline{}, err
	}
	op := opOf(sort)
	out := withNodes(p, func(n api.Node) api.Node {
		if n.Op == op && n.Name == from {
			n.Name = to
		}
		return n
	})
	switch sort {
	case AnInput:
		out.Inputs[index].Name = to
	case AParam:
		out.Params[index].Name = to
	case AFunc:
		out.Funcs[index].Name = to
	}
	return out, api.OK
}

// inlining is an expression of a caller that is written anew, with the value of a function in place of its calls.
type inlining struct {
	api.Func
	caller api.Expr
	out    api.Expr
}

// write writes the expression of a node of the caller, and returns where its end is. The function's value may have a
// coordinate several times or not at all, so that each one is written just where it is needed.
func (in *inlining) write(at int) int {
	n := in.caller[at]
	if n.Op == api.ECall && n.Name == in.Name {
		return in.writeValue(len(in.Value)-1, n.Kids)
	}
	return in.put(n, in.write)
}

// writeValue writes the expression of a node of the function's value with these coordinates.
func (in *inlining) writeValue(at int, coordinates []int) int {
	n := in.Value[at]
	if n.Op == api.EVar {
		return in.write(coordinates[slices.Index(in.Args, n.Name)])
	}
	return in.put(n, func(kid int) int { return in.writeValue(kid, coordinates) })
}

// put writes a node behind its kids. When there are too many nodes, which Check will find, no more are written.
func (in *inlining) put(n api.Node, write func(int) int) int {
	if len(in.out) > api.MaxNodes {
		return 0
	}
	n.Kids = list.Map(n.Kids, write)
	n.Picks = slices.Clone(n.Picks)
	in.out = append(in.out, n)
	return len(in.out) - 1
}

// Inline returns a pipeline in which the calls of a function are replaced by its value.
func Inline(p api.Pipeline, f int) (api.Pipeline, api.Errno) {
	if err := funcError(p, f); err != api.OK {
		return api.Pipeline{}, err
	}
	fn := p.Funcs[f]
	err := list.FirstError(list.ErrorIf(f == len(p.Funcs)-1, api.ErrKind), list.ErrorIf(len(fn.Updates) > 0, api.ErrState))
	if err != api.OK {
		return api.Pipeline{}, err
	}
	out := rewritten(p, func(e api.Expr) api.Expr {
		in := inlining{Func: fn, caller: e}
		if len(e) > 0 { // a Where may be empty
			in.write(len(e) - 1)
		}
		return in.out
	})
	out.Funcs = slices.Delete(out.Funcs, f, f+1)
	if _, err := Check(out); err != api.OK {
		return api.Pipeline{}, err
	}
	return out, api.OK
}

// Inlined returns a pipeline with several functions inlined.
func Inlined(p api.Pipeline, names []string) (api.Pipeline, api.Errno) {
	_, err := Check(p)
	if err := list.FirstError(err, list.ErrorIf(len(names) > api.MaxFuncs, api.ErrMany)); err != api.OK {
		return api.Pipeline{}, err
	}
	out := withNodes(p, itself)
	for _, name := range names {
		sort, f, err := Find(out, name)
		if err := list.FirstError(err, list.ErrorIf(sort != AFunc, api.ErrUnknown)); err != api.OK {
			return api.Pipeline{}, err
		}
		if out, err = Inline(out, f); err != api.OK {
			return api.Pipeline{}, err
		}
	}
	return out, api.OK
}

// Put returns a pipeline with values in the place of its parameters.
func Put(p api.Pipeline, l []api.Value) (api.Pipeline, api.Errno) {
	_, err := Check(p)
	if err := list.FirstError(err, list.ErrorIf(len(l) != len(p.Params), api.ErrShape)); err != api.OK {
		return api.Pipeline{}, err
	}
	for i, v := range l {
		if err := param.ValueError(v, p.Params[i]); err != api.OK {
			return api.Pipeline{}, err
		}
	}
	values := namesOf(p)
	out := withNodes(p, func(n api.Node) api.Node {
		if n.Op != api.EParam {
			return n
		}
		return api.Node{Op: api.EConst, Kind: n.Kind, Lanes: n.Lanes, Bits: l[values.index(n.Name)].Bits}
	})
	out.Params = nil
	return out, api.OK
}
