// Package tree has what layers do with the nodes of expressions that they have found to be right.
package tree

import (
	"slices"

	"halation/api"
	"halation/list"
)

// First returns the first node of a node.
func First(e api.Expr, node int) int {
	for len(e[node].Kids) > 0 {
		node = e[node].Kids[0]
	}
	return node
}

// Part returns the expression of a node.
func Part(e api.Expr, node int) api.Expr {
	first := First(e, node)
	return Moved(e[first:node+1], -first)
}

// Moved returns a copy of an expression, that shares no memory with it, in which the numbers of the kids are raised.
func Moved(e api.Expr, by int) api.Expr {
	out := make(api.Expr, len(e))
	copy(out, e)
	for i, n := range e {
		out[i].Kids = list.Map(n.Kids, func(kid int) int { return kid + by })
		out[i].Picks = slices.Clone(n.Picks)
	}
	return out
}

// Replaced returns a copy of an expression, that shares no memory with it, in which copies of other ones stand in place
// of the nodes for which by has one. All of them are replaced at once; they have no kids.
func Replaced(e api.Expr, by func(n api.Node) (api.Expr, bool)) api.Expr {
	var out api.Expr
	ends := make([]int, len(e)) // where the expressions of the nodes end
	for i, n := range e {
		if other, ok := by(n); ok {
			out = append(out, Moved(other, len(out))...)
		} else {
			n.Kids = list.Map(n.Kids, func(kid int) int { return ends[kid] })
			n.Picks = slices.Clone(n.Picks)
			out = append(out, n)
		}
		ends[i] = len(out) - 1
	}
	return out
}

// Above returns an operation with two expressions of the kind I32. It may have too many nodes.
func Above(op int, a, b api.Expr) api.Expr {
	kids := []int{len(a) - 1, len(a) + len(b) - 1}
	return slices.Concat(Moved(a, 0), Moved(b, len(a)), api.Expr{{Op: op, Kind: api.I32, Lanes: 1, Kids: kids}})
}
