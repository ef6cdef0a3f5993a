package mean

import (
	"slices"

	"halation/api"
	"halation/image"
	"halation/num"
)

// scope is what the expressions of a stage see: the numbers of its variables, and in an update the function itself.
type scope struct {
	function string
	names    []string
	numbers  []int
	self     func(point) (api.Value, api.Errno)
}

// operands are the values of a node's kids.
type operands [api.MaxDims]api.Value

// way is how the value of a node is computed.
type way struct {
	value func(c *computation, s scope, n api.Node, kids operands) (api.Value, api.Errno)
}

// wayOf returns how the values of nodes with an Op are computed. There are none for the Ops that no pipeline has.
func wayOf(op int) way {
	if op > api.EAdd && op <= api.ELe { // the operations with two kids are computed alike
		op = api.EAdd
	}
	table := [api.Ops]way{
		api.EConst:  {constant},
		api.EVar:    {variable},
		api.EParam:  {parameter},
		api.ECall:   {called},
		api.EImage:  {element},
		api.EAdd:    {operation},
		api.ENot:    {inverted},
		api.ECast:   {cast},
		api.ESat:    {saturated},
		api.ESelect: {selected},
	}
	return table[op]
}

// value computes an expression, node by node.
func (c *computation) value(s scope, e api.Expr) (api.Value, api.Errno) {
	values := make([]api.Value, len(e))
	err := api.OK
evaluation:
	for i, n := range e {
		var kids operands
		for k, kid := range n.Kids {
			kids[k] = values[kid]
		}
		if values[i], err = wayOf(n.Op).value(c, s, n, kids); err != api.OK {
			break evaluation
		}
	}
	return values[len(e)-1], err
}

func constant(_ *computation, _ scope, n api.Node, _ operands) (api.Value, api.Errno) {
	return api.Value{Kind: n.Kind, Bits: n.Bits}, api.OK
}

func variable(_ *computation, s scope, n api.Node, _ operands) (api.Value, api.Errno) {
	return num.Wrap(api.I32, int64(s.numbers[slices.Index(s.names, n.Name)]))
}

func parameter(c *computation, _ scope, n api.Node, _ operands) (api.Value, api.Errno) {
	return c.params[c.index[n.Name]], api.OK
}

// called returns the value of a call. What an update calls itself for is what its slice has by then.
func called(c *computation, s scope, n api.Node, kids operands) (api.Value, api.Errno) {
	p, err := pointOf(n, kids)
	if err != api.OK {
		return api.Value{}, err
	}
	if n.Name == s.function {
		return s.self(p)
	}
	c.read(n.Name, len(n.Kids), p)
	return c.whole(c.functions[c.index[n.Name]], p)
}

// element returns an element of an input.
func element(c *computation, _ scope, n api.Node, kids operands) (api.Value, api.Errno) {
	p, err := pointOf(n, kids)
	if err != api.OK {
		return api.Value{}, err
	}
	im := c.images[c.index[n.Name]]
	at, err := image.Index(im.Box, p[:len(n.Kids)])
	if err != api.OK {
		return api.Value{}, err
	}
	c.read(n.Name, len(n.Kids), p)
	return api.Value{Kind: im.Kind, Bits: im.Data[at]}, api.OK
}

// pointOf returns the point of a call, or of an element of an input.
func pointOf(n api.Node, kids operands) (point, api.Errno) {
	var p point
	for i := range len(n.Kids) {
		c, err := coordinate(kids[i])
		if err != api.OK {
			return point{}, err
		}
		p[i] = c
	}
	return p, api.OK
}

// coordinate returns the number of a coordinate, whose kind is I32.
func coordinate(v api.Value) (int, api.Errno) {
	n, _ := num.Int(v)
	if isFar(int(n)) {
		return 0, api.ErrLarge
	}
	return int(n), api.OK
}

func operation(_ *computation, _ scope, n api.Node, kids operands) (api.Value, api.Errno) {
	return num.Apply(n.Op, kids[0], kids[1])
}

func inverted(_ *computation, _ scope, _ api.Node, kids operands) (api.Value, api.Errno) {
	return num.Not(kids[0])
}

func cast(_ *computation, _ scope, n api.Node, kids operands) (api.Value, api.Errno) {
	return num.Cast(n.Kind, kids[0])
}

func saturated(_ *computation, _ scope, n api.Node, kids operands) (api.Value, api.Errno) {
	return num.Sat(n.Kind, kids[0])
}

func selected(_ *computation, _ scope, _ api.Node, kids operands) (api.Value, api.Errno) {
	return num.Select(kids[0], kids[1], kids[2])
}
