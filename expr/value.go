package expr

import (
	"slices"

	"halation/api"
	"halation/list"
	"halation/num"
	"halation/tree"
)

const maxBindings = 64

// Binding is the value of a variable or a parameter.
type Binding struct {
	Name  string
	Value api.Value
}

// scope is the values that names are bound to.
type scope map[string]api.Value

func scopeOf(l []Binding) (scope, api.Errno) {
	if len(l) > maxBindings {
		return nil, api.ErrMany
	}
	bound := scope{}
	for _, b := range l {
		_, twice := bound[b.Name]
		if err := list.FirstError(nameError(b.Name), list.ErrorIf(twice, api.ErrTwice), num.CheckValue(b.Value)); err != api.OK {
			return nil, err
		}
		bound[b.Name] = b.Value
	}
	return bound, api.OK
}

func (s scope) lookUp(n api.Node) (api.Value, api.Errno) {
	v, ok := s[n.Name]
	switch {
	case !ok:
		return api.Value{}, api.ErrUnknown
	case v.Kind != n.Kind:
		return api.Value{}, api.ErrType
	}
	return v, api.OK
}

// Eval returns the values of an expression.
func Eval(e api.Expr, l []Binding) ([]api.Value, api.Errno) {
	if err := Check(e); err != api.OK {
		return nil, err
	}
	bound, err := scopeOf(l)
	if err != api.OK {
		return nil, err
	}
	values := make([][]api.Value, len(e))
	for n := range nodes(e) {
		kids := list.Map(n.Kids, func(kid int) []api.Value { return values[kid] })
		if values[n.at], err = bound.lanesOf(n.Node, kids); err != api.OK {
			return nil, err
		}
	}
	return values[len(e)-1], api.OK
}

// lanesOf returns the values of a node's lanes, by those of its kids.
func (s scope) lanesOf(n api.Node, kids [][]api.Value) ([]api.Value, api.Errno) {
	switch n.Op {
	case api.EConst:
		return []api.Value{valueOf(n)}, api.OK
	case api.EVar, api.EParam:
		v, err := s.lookUp(n)
		return []api.Value{v}, err
	case api.ECall, api.EImage, api.ELoad:
		return nil, api.ErrKind
	case api.ERamp:
		return rampOf(kids[0][0], kids[1][0], n.Lanes), api.OK
	case api.EBroadcast:
		return slices.Repeat(kids[0], n.Lanes), api.OK
	case api.EShuffle:
		return list.Map(n.Picks, func(pick int) api.Value { return kids[0][pick] }), api.OK
	case api.EReduce:
		return []api.Value{reduced(int(n.Bits), kids[0])}, api.OK
	}
	out := make([]api.Value, n.Lanes)
	for lane := range n.Lanes {
		out[lane] = tree.Computed(n, list.Map(kids, func(kid []api.Value) api.Value { return kid[lane] }))
	}
	return out, api.OK
}

// applied returns the result of an operation that Check has found to take these values.
func applied(op int, a, b api.Value) api.Value {
	v, _ := num.Apply(op, a, b)
	return v
}

func rampOf(base, step api.Value, lanes int) []api.Value {
	out := make([]api.Value, lanes)
	for lane := range lanes {
		out[lane] = base
		base = applied(api.EAdd, base, step)
	}
	return out
}

func reduced(op int, lanes []api.Value) api.Value {
	v := lanes[0]
	for _, next := range lanes[1:] {
		v = applied(op, v, next)
	}
	return v
}

// isComputed reports whether an Op is an operation, a cast or a select.
func isComputed(op int) bool {
	return op >= api.EAdd && op <= api.ESelect
}

// Fold returns an expression with its constants computed.
func Fold(e api.Expr) (api.Expr, api.Errno) {
	if err := Check(e); err != api.OK {
		return nil, err
	}
	r := rewriting{}
	for n := range nodes(e) {
		// Kids that are constants are single nodes, so that they all stand at the end.
		start := len(r.out) - len(n.Kids)
		kids := r.out[start:]
		if isComputed(n.Op) && !slices.ContainsFunc(kids, func(kid api.Node) bool { return kid.Op != api.EConst }) {
			v := tree.Computed(n.Node, list.Map(kids, valueOf))
			r.out = r.out[:start]
			r.putWhole(api.Expr{constant(v)})
		} else {
			r.keep(n.Node)
		}
	}
	return r.out, api.OK
}
