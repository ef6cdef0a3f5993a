package expr

import (
	"slices"

	"halation/api"
	"halation/list"
	"halation/tree"
)

func indexError(e api.Expr, node int) api.Errno {
	return list.ErrorIf(node < 0 || node >= len(e), api.ErrUnknown)
}

// First returns the first node of a node.
func First(e api.Expr, node int) (int, api.Errno) {
	if err := list.FirstError(Check(e), indexError(e, node)); err != api.OK {
		return 0, err
	}
	return tree.First(e, node), api.OK
}

// Sub returns the expression of a node.
func Sub(e api.Expr, node int) (api.Expr, api.Errno) {
	first, err := First(e, node)
	if err != api.OK {
		return nil, err
	}
	return tree.Moved(e[first:node+1], -first), api.OK
}

// renumbered returns a node with other numbers of its kids, that shares no memory with it.
func renumbered(n api.Node, number func(int) int) api.Node {
	n.Kids = list.Map(n.Kids, number)
	n.Picks = slices.Clone(n.Picks)
	return n
}

// rewriting is an expression that is made of another one, node by node.
type rewriting struct {
	out api.Expr
	at  []int // where the expressions of the other one's nodes end
}

// place returns where the expression of a node ends.
func (r *rewriting) place(node int) int {
	return r.at[node]
}

// keep ends with a node as it was.
func (r *rewriting) keep(n api.Node) {
	r.put(api.Expr{n}, r.place)
}

// putWhole ends with another expression in place of a node.
func (r *rewriting) putWhole(e api.Expr) {
	start := len(r.out)
	r.put(e, func(kid int) int { return kid + start })
}

func (r *rewriting) put(e api.Expr, number func(int) int) {
	for _, n := range e {
		r.out = append(r.out, renumbered(n, number))
	}
	r.at = append(r.at, len(r.out)-1)
}

// skip leaves out a node that no node has as a kid any more.
func (r *rewriting) skip() {
	r.put(nil, r.place)
}

// checked returns an expression that is right, or its error.
func checked(e api.Expr) (api.Expr, api.Errno) {
	if err := Check(e); err != api.OK {
		return nil, err
	}
	return e, api.OK
}

// Replace returns an expression with another one in place of that of a node.
func Replace(e api.Expr, node int, by api.Expr) (api.Expr, api.Errno) {
	if err := list.FirstError(Check(e), indexError(e, node), Check(by)); err != api.OK {
		return nil, err
	}
	first := tree.First(e, node)
	r := rewriting{}
	for n := range nodes(e) {
		switch {
		case n.at == node:
			r.putWhole(by)
		case n.at >= first && n.at < node:
			r.skip()
		default:
			r.keep(n.Node)
		}
	}
	return checked(r.out)
}

// Subst returns an expression with another one in place of a variable.
func Subst(e api.Expr, name string, by api.Expr) (api.Expr, api.Errno) {
	if err := list.FirstError(Check(e), nameError(name), Check(by)); err != api.OK {
		return nil, err
	}
	if whole := by[len(by)-1]; !isCoordinate(whole) || whole.Lanes != 1 {
		return nil, api.ErrType
	}
	r := rewriting{}
	for n := range nodes(e) {
		if n.Op == api.EVar && n.Name == name {
			r.putWhole(by)
		} else {
			r.keep(n.Node)
		}
	}
	return checked(r.out)
}

// Free returns the variables of an expression.
func Free(e api.Expr) ([]string, api.Errno) {
	return Uses(e, api.EVar)
}

// Uses returns the names of the nodes with an Op.
func Uses(e api.Expr, op int) ([]string, api.Errno) {
	if err := list.FirstError(Check(e), list.ErrorIf(!hasName(op), api.ErrUnknown)); err != api.OK {
		return nil, err
	}
	var names []string
	for n := range nodes(e) {
		if n.Op == op && !slices.Contains(names, n.Name) {
			names = append(names, n.Name)
		}
	}
	return names, api.OK
}

// Same reports whether two expressions are equal.
func Same(a, b api.Expr) bool {
	return slices.EqualFunc(slices.Collect(nodes(a)), slices.Collect(nodes(b)), placed.same)
}

// same reports whether two nodes are equal, for which a list that is nil is an empty one.
func (n placed) same(m placed) bool {
	return n.Op == m.Op && valueOf(n.Node) == valueOf(m.Node) && n.Lanes == m.Lanes && n.Name == m.Name &&
		slices.Equal(n.Picks, m.Picks) && slices.Equal(n.Kids, m.Kids)
}
