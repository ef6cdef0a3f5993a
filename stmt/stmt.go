// Package stmt has what layers do with statements that are in post-order.
package stmt

import (
	"halation/api"
	"halation/list"
	"halation/tree"
)

// First returns the first statement of one.
func First(l []api.Stmt, at int) int {
	for len(l[at].Kids) > 0 {
		at = l[at].Kids[0]
	}
	return at
}

// Moved returns a copy of statements, that shares no memory with them, in which the numbers of the kids are raised.
// Those below 0, which are no statement's, become -1.
func Moved(l []api.Stmt, by int) []api.Stmt {
	out := make([]api.Stmt, len(l))
	copy(out, l)
	for i, s := range l {
		out[i].Exprs = list.Map(s.Exprs, func(e api.Expr) api.Expr { return tree.Moved(e, 0) })
		out[i].Kids = list.Map(s.Kids, func(kid int) int {
			if kid < 0 {
				return -1
			}
			return kid + by
		})
	}
	return out
}

// Over returns a statement with some other ones as its kids, in their order. It shares no memory with them.
func Over(s api.Stmt, kids ...[]api.Stmt) []api.Stmt {
	var out []api.Stmt
	s.Kids = nil
	for _, l := range kids {
		out = append(out, Moved(l, len(out))...)
		s.Kids = append(s.Kids, len(out)-1)
	}
	return append(out, Moved([]api.Stmt{s}, 0)...)
}
