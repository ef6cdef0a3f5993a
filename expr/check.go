// Package expr is layer 2, expressions as tables of nodes: see shared/doc/02-expr.md.
package expr

import (
	"iter"
	"slices"

	"halation/api"
	"halation/list"
	"halation/num"
	"halation/tree"
)

// IsName reports whether a string is a name.
func IsName(s string) bool {
	for i, r := range s {
		letter := 'a' <= r && r <= 'z' || 'A' <= r && r <= 'Z' || r == '_'
		digit := '0' <= r && r <= '9'
		if !letter && (!digit || i == 0) {
			return false
		}
	}
	return s != "" && len(s) <= api.MaxName
}

func nameError(s string) api.Errno {
	return list.ErrorIf(!IsName(s), api.ErrName)
}

// Result returns the kind of the result of an operation.
func Result(op, kind int) (int, api.Errno) {
	if op < api.EAdd || op > api.ENot {
		return 0, api.ErrUnknown
	}
	if op == api.ENot { // num has it as no operation of its own, but it takes the kinds that the others bit by bit take
		op = api.EXor
	}
	return num.Result(op, kind)
}

// placed is a node with its place in the expression.
type placed struct {
	api.Node
	at int
}

// nodes visits the nodes of an expression from the first to the last one.
func nodes(e api.Expr) iter.Seq[placed] {
	return func(yield func(placed) bool) {
		for i, n := range e {
			if !yield(placed{n, i}) {
				return
			}
		}
	}
}

// Check returns the first error of an expression, or OK.
func Check(e api.Expr) api.Errno {
	if err := list.FirstError(list.ErrorIf(len(e) == 0, api.ErrEmpty), list.ErrorIf(len(e) > api.MaxNodes, api.ErrMany)); err != api.OK {
		return err
	}
	c := checker{nodes: e, forms: forms()}
	found := api.OK
search:
	for n := range nodes(e) {
		switch found = c.nodeError(n); {
		case found != api.OK:
			break search
		case n.at == len(e)-1 && tree.First(e, n.at) != 0:
			found = api.ErrForm
		}
	}
	return found
}

// Kind returns the kind and the lanes of an expression.
func Kind(e api.Expr) (int, int, api.Errno) {
	if err := Check(e); err != api.OK {
		return 0, 0, err
	}
	whole := e[len(e)-1]
	return whole.Kind, whole.Lanes, api.OK
}

// checker is an expression whose nodes are examined one by one: those before the one that is examined are right.
type checker struct {
	nodes api.Expr
	forms [api.Ops]form
	kids  []api.Node // those of the node that is examined
}

func (c *checker) nodeError(n placed) api.Errno {
	if !isOp(n.Op) || num.CheckKind(n.Kind) != api.OK {
		return api.ErrKind
	}
	f := &c.forms[n.Op]
	switch {
	case f.named && !IsName(n.Name), !f.named && n.Name != "":
		return api.ErrName
	case !f.bits(n.Node):
		return api.ErrForm
	case len(n.Kids) < f.kids[0] || len(n.Kids) > f.kids[1]:
		return api.ErrShape
	case !c.inOrder(n):
		return api.ErrOrder
	}
	c.kids = c.kids[:0]
	for _, kid := range n.Kids {
		c.kids = append(c.kids, c.nodes[kid])
	}
	return list.FirstError(
		list.ErrorIf(!f.kinds(n.Node, c.kids), api.ErrType),
		list.ErrorIf(!f.lanes(n.Node, c.kids), api.ErrVector))
}

// inOrder reports whether the kids' expressions end just before the node, and each one just before the next.
func (c *checker) inOrder(n placed) bool {
	end := n.at - 1
	for i, kid := range slices.Backward(n.Kids) {
		if kid < 0 || kid != end {
			return false
		}
		if i > 0 {
			end = tree.First(c.nodes, kid) - 1
		}
	}
	return true
}
