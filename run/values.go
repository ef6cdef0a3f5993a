package run

import (
	"halation/api"
	"halation/num"
	"halation/tree"
)

// lanes are the bits of the lanes of a node; there are none behind the last one.
type lanes [api.MaxLanes]uint64

// mask is which lanes of a store count.
type mask [api.MaxLanes]bool

// all returns the mask of so many lanes that count.
func all(width int) mask {
	var out mask
	for lane := range width {
		out[lane] = true
	}
	return out
}

// maskOf returns the mask of lanes of the kind Bool.
func maskOf(l lanes) mask {
	var out mask
	for lane, bits := range l {
		out[lane] = bits != 0
	}
	return out
}

// integer returns the number of a lane of the kind I32.
func integer(bits uint64) int {
	return int(int32(bits))
}

// bitsOf returns the bits of a number, wrapped as I32.
func bitsOf(n int) uint64 {
	return uint64(uint32(n))
}

// computing is an expression that is computed in a scope, in a statement.
type computing struct {
	*machine
	at   int
	vars *scope
	e    api.Expr
}

// kid returns a lane of a node's kid.
func (c *computing) kid(n api.Node, i, lane int) uint64 {
	return c.values[n.Kids[i]][lane]
}

// way is how one lane of a node is computed.
type way struct {
	lane func(c *computing, n api.Node, lane int) (uint64, bool)
}

// ways returns how the nodes with each Op are computed. Right programs have no calls and no inputs.
func ways() [api.Ops]way {
	table := [api.Ops]way{
		api.EConst:     {constant},
		api.EVar:       {variable},
		api.EParam:     {parameter},
		api.ELoad:      {element},
		api.ERamp:      {ramp},
		api.EBroadcast: {broadcast},
		api.EShuffle:   {shuffle},
		api.EReduce:    {reduction},
	}
	for op := api.EAdd; op <= api.ESelect; op++ {
		table[op] = way{operation}
	}
	return table
}

func constant(_ *computing, n api.Node, _ int) (uint64, bool) {
	return n.Bits, true
}

func variable(c *computing, n api.Node, _ int) (uint64, bool) {
	return bitsOf(c.vars.find(n.Name)), true
}

func parameter(c *computing, n api.Node, _ int) (uint64, bool) {
	return c.params[n.Name].Bits, true
}

func element(c *computing, n api.Node, lane int) (uint64, bool) {
	return c.load(c.at, n.Name, integer(c.kid(n, 0, lane)))
}

func operation(c *computing, n api.Node, lane int) (uint64, bool) {
	var kids [3]api.Value
	for i, kid := range n.Kids {
		kids[i] = api.Value{Kind: c.e[kid].Kind, Bits: c.kid(n, i, lane)}
	}
	return tree.Computed(n, kids[:len(n.Kids)]).Bits, true
}

func ramp(c *computing, n api.Node, lane int) (uint64, bool) {
	return bitsOf(integer(c.kid(n, 0, 0)) + lane*integer(c.kid(n, 1, 0))), true
}

func broadcast(c *computing, n api.Node, _ int) (uint64, bool) {
	return c.kid(n, 0, 0), true
}

func shuffle(c *computing, n api.Node, lane int) (uint64, bool) {
	return c.kid(n, 0, n.Picks[lane]), true
}

func reduction(c *computing, n api.Node, _ int) (uint64, bool) {
	out := api.Value{Kind: n.Kind, Bits: c.kid(n, 0, 0)}
	for lane := 1; lane < c.e[n.Kids[0]].Lanes; lane++ {
		out, _ = num.Apply(int(n.Bits), out, api.Value{Kind: n.Kind, Bits: c.kid(n, 0, lane)})
	}
	return out.Bits, true
}

// compute computes an expression. In nodes with as many lanes as the mask has, those that do not count are 0.
func (m *machine) compute(at int, e api.Expr, vars *scope, where mask, width int) (lanes, bool) {
	c := &computing{m, at, vars, e}
	m.values = append(m.values[:0], make([]lanes, len(e))...)
	for i, n := range e {
		for lane := range n.Lanes {
			if n.Lanes == width && !where[lane] {
				continue
			}
			bits, ok := m.ways[n.Op].lane(c, n, lane)
			if !ok {
				return lanes{}, false
			}
			m.values[i][lane] = bits
		}
	}
	return m.values[len(e)-1], true
}

// single computes an expression that has one lane.
func (m *machine) single(at int, e api.Expr, vars *scope) (uint64, bool) {
	out, ok := m.compute(at, e, vars, all(1), 1)
	return out[0], ok
}
