package pipe

import (
	"slices"

	"halation/api"
	"halation/expr"
	"halation/list"
	"halation/num"
	"halation/param"
)

// finding is the first error of something, and its place; it is the zero value if there is none.
type finding struct {
	Place
	err api.Errno
}

// found returns what has been found at a place.
func found(at Place, err api.Errno) finding {
	if err == api.OK {
		return finding{}
	}
	return finding{at, err}
}

// Check returns the place of the first error of a pipeline, and the error.
func Check(p api.Pipeline) (Place, api.Errno) {
	c := checker{p, names{}}
	if err := c.headError(); err != api.OK {
		return Place{head, head, head}, err
	}
	for f := range p.Funcs {
		if first := c.function(f); first != (finding{}) {
			return first.Place, first.err
		}
	}
	return Place{}, api.OK
}

// checker is a pipeline that is examined, with the names that it has up to there.
type checker struct {
	api.Pipeline
	names names
}

func (c checker) headError() api.Errno {
	if err := list.FirstError(list.ErrorIf(!expr.IsName(c.Name), api.ErrName), list.ErrorIf(len(c.Inputs) > api.MaxInputs, api.ErrMany)); err != api.OK {
		return err
	}
	for i, in := range c.Inputs {
		err := list.FirstError(
			c.names.add(in.Name, named{AnInput, i}),
			num.CheckKind(in.Kind),
			dimsError(in.Dims))
		if err != api.OK {
			return err
		}
	}
	if len(c.Params) > api.MaxParams {
		return api.ErrMany
	}
	for i, x := range c.Params {
		if err := list.FirstError(c.names.add(x.Name, named{AParam, i}), param.Error(x)); err != api.OK {
			return err
		}
	}
	return list.FirstError(list.ErrorIf(len(c.Funcs) == 0, api.ErrEmpty), list.ErrorIf(len(c.Funcs) > api.MaxFuncs, api.ErrMany))
}

func dimsError(dims int) api.Errno {
	return list.ErrorIf(dims < 1 || dims > api.MaxDims, api.ErrDims)
}

// function finds the first error of a function.
func (c checker) function(f int) finding {
	if err := c.functionError(f); err != api.OK {
		return found(Place{f, head, head}, err)
	}
	for s := range stages(c.Pipeline, f) {
		if first := c.stage(s); first != (finding{}) {
			return first
		}
	}
	return finding{}
}

// functionError returns the error of what a function has beside its stages.
func (c checker) functionError(f int) api.Errno {
	fn := c.Funcs[f]
	if err := list.FirstError(c.names.add(fn.Name, named{AFunc, f}), dimsError(len(fn.Args))); err != api.OK {
		return err
	}
	return list.FirstError(
		variablesError(fn.Args),
		num.CheckKind(fn.Kind),
		list.ErrorIf(len(fn.Updates) > api.MaxUpdates, api.ErrMany))
}

// variablesError returns the error of the first variable that is no name, or that has that of one before it.
func variablesError(vars []string) api.Errno {
	for i, v := range vars {
		err := list.FirstError(list.ErrorIf(!expr.IsName(v), api.ErrName), list.ErrorIf(slices.Contains(vars[:i], v), api.ErrTwice))
		if err != api.OK {
			return err
		}
	}
	return api.OK
}

// stage finds the first error of a stage.
func (c checker) stage(s stage) finding {
	if err := updateError(s); err != api.OK {
		return found(s.Place, err)
	}
	for part, e := range s.expressions() {
		s.Part = part
		if first := found(s.Place, c.exprError(s, e)); first != (finding{}) {
			return first
		}
	}
	return finding{}
}

// updateError returns the error of what an update has beside its expressions. Those of one axis come before the next's.
func updateError(s stage) api.Errno {
	if len(s.update.Domain) > api.MaxAxes {
		return api.ErrMany
	}
	vars := slices.Clone(s.function.Args)
	for _, axis := range s.update.Domain {
		vars = append(vars, axis.Name)
		if err := list.FirstError(variablesError(vars), axisError(axis.Range)); err != api.OK {
			return err
		}
	}
	return list.ErrorIf(s.Stage > 0 && len(s.update.Left) != len(s.function.Args), api.ErrDims)
}

func axisError(r api.Range) api.Errno {
	isFar := func(n int) bool { return n < -api.MaxCoord || n > api.MaxCoord }
	wrong := r.Extent < 1 || r.Extent > api.MaxExtent || isFar(r.Min) || isFar(r.Min+r.Extent-1)
	return list.ErrorIf(wrong, api.ErrRange)
}

// kind returns the kind that the expression at the place must have.
func (s stage) kind() int {
	switch s.Part {
	case value:
		return s.function.Kind
	case where:
		return api.Bool
	}
	return api.I32
}

func (c checker) exprError(s stage, e api.Expr) api.Errno {
	kind, _, err := expr.Kind(e)
	if err := list.FirstError(err, list.ErrorIf(kind != s.kind(), api.ErrType)); err != api.OK {
		return err
	}
search:
	for _, n := range e {
		if err = c.nodeError(s, e, n); err != api.OK {
			break search
		}
	}
	return err
}

// usage is what the nodes of an Op may be in a stage: its function returns the error of a node that expr.Check has found right.
type usage struct {
	err func(c checker, s stage, e api.Expr, n api.Node) api.Errno
}

// usageOf returns what the nodes of an Op may be.
func usageOf(op int) usage {
	table := [api.Ops]usage{
		api.EVar:       {variableError},
		api.EParam:     {paramNodeError},
		api.ECall:      {callError},
		api.EImage:     {imageError},
		api.ELoad:      {loadError},
		api.ERamp:      {vectorError},
		api.EBroadcast: {vectorError},
		api.EShuffle:   {vectorError},
		api.EReduce:    {vectorError},
	}
	return table[op]
}

func (c checker) nodeError(s stage, e api.Expr, n api.Node) api.Errno {
	if n.Lanes != 1 {
		return api.ErrVector
	}
	u := usageOf(n.Op)
	if u.err == nil { // such nodes may be everywhere
		return api.OK
	}
	return u.err(c, s, e, n)
}

func vectorError(checker, stage, api.Expr, api.Node) api.Errno {
	return api.ErrVector
}

func loadError(checker, stage, api.Expr, api.Node) api.Errno {
	return api.ErrKind
}

func variableError(_ checker, s stage, _ api.Expr, n api.Node) api.Errno {
	isAxis := slices.ContainsFunc(s.update.Domain, func(a api.Axis) bool { return a.Name == n.Name })
	arg := slices.Index(s.function.Args, n.Name)
	return list.ErrorIf(!isAxis && (arg < 0 || !s.pure[arg]), api.ErrUnknown)
}

func paramNodeError(c checker, _ stage, _ api.Expr, n api.Node) api.Errno {
	if !c.names.is(n.Name, AParam) {
		return api.ErrUnknown
	}
	return list.ErrorIf(n.Kind != c.Params[c.names.index(n.Name)].Kind, api.ErrType)
}

// accessError returns the error of a node that reads something with so many dimensions, of a kind.
func accessError(n api.Node, dims, kind int) api.Errno {
	return list.FirstError(list.ErrorIf(len(n.Kids) != dims, api.ErrDims), list.ErrorIf(n.Kind != kind, api.ErrType))
}

func imageError(c checker, _ stage, _ api.Expr, n api.Node) api.Errno {
	if !c.names.is(n.Name, AnInput) {
		return api.ErrUnknown
	}
	in := c.Inputs[c.names.index(n.Name)]
	return accessError(n, in.Dims, in.Kind)
}

// callError finds the functions up to the one of the stage among the names, since later ones are not yet there.
func callError(c checker, s stage, e api.Expr, n api.Node) api.Errno {
	if !c.names.is(n.Name, AFunc) {
		return api.ErrUnknown
	}
	f := c.names.index(n.Name)
	isSelf := f == s.Func
	if isSelf && s.Stage == 0 {
		return api.ErrSelf
	}
	called := c.Funcs[f]
	if err := accessError(n, len(called.Args), called.Kind); err != api.OK {
		return err
	}
	return list.ErrorIf(isSelf && !s.keepsPure(e, n), api.ErrSelf)
}

// keepsPure reports whether the coordinates of a self-call are the variables themselves in all pure dimensions.
func (s stage) keepsPure(e api.Expr, n api.Node) bool {
	for i := range len(s.pure) {
		if s.pure[i] && !isVariable(e[n.Kids[i]], s.function.Args[i]) {
			return false
		}
	}
	return true
}
