// Package tree has what layers do with the nodes of expressions that they have found to be right.
package tree

import (
	"slices"

	"halation/api"
	"halation/list"
	"halation/num"
)

// Whole returns the last node of an expression, which is the whole.
func Whole(e api.Expr) api.Node {
	return e[len(e)-1]
}

// First returns the first node of a node.
func First(e api.Expr, node int) int {
	for len(e[node].Kids) > 0 {
		node = e[node].Kids[0]
	}
	return node
}

// Part returns the expression of a node.
func Part(e api.Expr, node int) api.Expr {
	first := First(e, node)
	return Moved(e[first:node+1], -first)
}

// Moved returns a copy of an expression, that shares no memory with it, in which the numbers of the kids are raised.
func Moved(e api.Expr, by int) api.Expr {
	out := make(api.Expr, len(e))
	copy(out, e)
	for i, n := range e {
		out[i].Kids = list.Map(n.Kids, func(kid int) int { return kid + by })
		out[i].Picks = slices.Clone(n.Picks)
	}
	return out
}

// Replaced returns a copy of an expression, that shares no memory with it, in which copies of other ones stand in place
// of the nodes for which by has one. All of them are replaced at once; they have no kids.
func Replaced(e api.Expr, by func(n api.Node) (api.Expr, bool)) api.Expr {
	var out api.Expr
	ends := make([]int, len(e)) // where the expressions of the nodes end
	for i, n := range e {
		if other, ok := by(n); ok {
			out = append(out, Moved(other, len(out))...)
		} else {
			n.Kids = list.Map(n.Kids, func(kid int) int { return ends[kid] })
			n.Picks = slices.Clone(n.Picks)
			out = append(out, n)
		}
		ends[i] = len(out) - 1
	}
	return out
}

// Over returns a node with some expressions as its kids, in their order. It may have too many nodes, and kinds that do not fit.
func Over(n api.Node, kids ...api.Expr) api.Expr {
	var out api.Expr
	n.Kids, n.Picks = nil, slices.Clone(n.Picks)
	for _, e := range kids {
		out = append(out, Moved(e, len(out))...)
		n.Kids = append(n.Kids, len(out)-1)
	}
	return append(out, n)
}

// Above returns an operation with two expressions of the kind I32. It may have too many nodes.
func Above(op int, a, b api.Expr) api.Expr {
	return Over(api.Node{Op: op, Kind: api.I32, Lanes: 1}, a, b)
}

// Computed returns the value of one lane of an operation, a cast or a select, by those of its kids.
func Computed(n api.Node, kids []api.Value) api.Value {
	var v api.Value
	switch n.Op {
	case api.ENot:
		v, _ = num.Not(kids[0])
	case api.ECast:
		v, _ = num.Cast(n.Kind, kids[0])
	case api.ESat:
		v, _ = num.Sat(n.Kind, kids[0])
	case api.ESelect:
		v, _ = num.Select(kids[0], kids[1], kids[2])
	default:
		v, _ = num.Apply(n.Op, kids[0], kids[1])
	}
	return v
}
