package rule

import (
	"slices"

	"halation/api"
	"halation/expr"
	"halation/list"
	"halation/tree"
)

// maxBounds is how many wildcards there are, maxRules how many rules a list has at most.
const (
	maxBounds = 6
	maxRules  = 256
)

// Bound is a wildcard and what it stands for.
type Bound struct {
	Name string
	Expr api.Expr
}

// head is what the nodes of a pattern and of an expression have in common, but for Picks.
type head struct {
	op, kind, lanes int
	name            string
	bits            uint64
	kids            int
}

func headOf(n api.Node) head {
	return head{n.Op, n.Kind, n.Lanes, n.Name, n.Bits, len(n.Kids)}
}

// alike reports whether nodes at one place of two expressions, or of a pattern and an expression, are equal. In
// post-order the numbers of the kids follow from how many there are.
func alike(n, m api.Node) bool {
	return headOf(n) == headOf(m) && slices.Equal(n.Picks, m.Picks)
}

func (n placed) same(m placed) bool {
	return alike(n.Node, m.Node)
}

// matching is an expression and the nodes for which wildcards stand.
type matching struct {
	e     api.Expr
	bound map[string]int
}

// bind lets a wildcard stand for a node, if it can.
func (m matching) bind(pattern api.Node, node int) bool {
	w, _ := wildcardOf(pattern.Name)
	n := m.e[node]
	if n.Kind != pattern.Kind || n.Lanes != 1 || !w.takes(n) {
		return false
	}
	before, twice := m.bound[w.name]
	if twice {
		return slices.EqualFunc(m.part(before), m.part(node), placed.same)
	}
	m.bound[w.name] = node
	return true
}

// part returns the nodes of a node's expression.
func (m matching) part(node int) []placed {
	return slices.Collect(nodes(m.e[tree.First(m.e, node) : node+1]))
}

// walk goes over the nodes of a pattern and of an expression at once, as long as they have equal nodes, and bind
// takes the wildcards with what is at their places.
func (m matching) walk(pattern api.Expr, at, node int, bind func(api.Node, int) bool) bool {
	p, n := pattern[at], m.e[node]
	if isWildcard(p) {
		return bind(p, node)
	}
	// Lanes and Picks, too: filled, the pattern has to be the expression again
	if !alike(p, n) {
		return false
	}
	for i := range len(p.Kids) {
		if !m.walk(pattern, p.Kids[i], n.Kids[i], bind) {
			return false
		}
	}
	return true
}

// matched returns what the wildcards of a pattern stand for, if it matches an expression.
func matched(pattern, e api.Expr) ([]Bound, bool) {
	m := matching{e, map[string]int{}}
	if whole(e).Lanes != 1 || !m.walk(pattern, len(pattern)-1, len(e)-1, m.bind) {
		return nil, false
	}
	names, _ := expr.Uses(pattern, api.EParam)
	return list.Map(names, func(name string) Bound { return Bound{name, tree.Part(e, m.bound[name])} }), true
}

// Match returns what the wildcards of a pattern stand for in an expression.
func Match(pattern, e api.Expr) ([]Bound, bool, api.Errno) {
	if err := list.FirstError(patternError(pattern), expr.Check(e)); err != api.OK {
		return nil, false, err
	}
	l, ok := matched(pattern, e)
	return l, ok, api.OK
}

// filled returns a pattern with other expressions in place of its wildcards, as far as there are some.
func filled(pattern api.Expr, by func(n api.Node) (api.Expr, bool)) api.Expr {
	return tree.Replaced(pattern, func(n api.Node) (api.Expr, bool) {
		if !isWildcard(n) {
			return nil, false
		}
		return by(n)
	})
}

// given finds what wildcards stand for.
type given map[string]api.Expr

func givenOf(l []Bound) given {
	g := given{}
	for _, b := range l {
		g[b.Name] = b.Expr
	}
	return g
}

func (g given) all(n api.Node) (api.Expr, bool) {
	e, ok := g[n.Name]
	return e, ok
}

// fixed finds what the wildcards stand for that stand for constants.
func (g given) fixed(n api.Node) (api.Expr, bool) {
	if !isFixed(n.Name) {
		return nil, false
	}
	return g.all(n)
}

// Filled returns a pattern with expressions in the places of its wildcards.
func Filled(pattern api.Expr, l []Bound) (api.Expr, api.Errno) {
	if err := list.FirstError(patternError(pattern), list.ErrorIf(len(l) > maxBounds, api.ErrMany)); err != api.OK {
		return nil, err
	}
	kinds := kindsOf(pattern)
	g := given{}
	for _, b := range l {
		if err := g.boundError(b, kinds); err != api.OK {
			return nil, err
		}
		g[b.Name] = b.Expr
	}
	for name := range kinds {
		if g[name] == nil {
			return nil, api.ErrUnknown
		}
	}
	out := filled(pattern, g.all)
	if err := expr.Check(out); err != api.OK {
		return nil, err
	}
	return out, api.OK
}

// boundError returns the error of an element, when those before it are given.
func (g given) boundError(b Bound, kinds map[string]int) api.Errno {
	_, named := wildcardOf(b.Name)
	_, twice := g[b.Name]
	kind, lanes, err := expr.Kind(b.Expr)
	wanted, used := kinds[b.Name]
	return list.FirstError(
		list.ErrorIf(!named, api.ErrName),
		list.ErrorIf(twice, api.ErrTwice),
		err,
		list.ErrorIf(lanes != 1, api.ErrVector),
		list.ErrorIf(used && wanted != kind, api.ErrType))
}

// applied returns what a right rule makes of an expression, if it can be applied to it.
func (r Rule) applied(e api.Expr) (api.Expr, bool) {
	var out api.Expr
search:
	for _, kind := range r.Kinds {
		i := r.instance(kind)
		l, ok := matched(i.Left, e)
		if g := givenOf(l); ok && g.allows(i.Where) {
			out = g.result(i.Right)
			break search
		}
	}
	return out, len(out) > 0
}

// allows reports whether a condition of constants is true, or empty.
func (g given) allows(where api.Expr) bool {
	if len(where) == 0 {
		return true
	}
	values, _ := expr.Eval(filled(where, g.fixed), nil)
	return values[0] == api.Value{Kind: api.Bool, Bits: 1}
}

// result returns the right side of an instance with what was matched.
func (g given) result(right api.Expr) api.Expr {
	folded, _ := expr.Fold(filled(right, g.fixed))
	return filled(folded, g.all)
}

// Apply returns an expression after a rule at a node, if it can be applied there.
func Apply(r Rule, e api.Expr, node int) (api.Expr, bool, api.Errno) {
	if err := Check(r); err != api.OK {
		return nil, false, err
	}
	part, err := expr.Sub(e, node)
	if err != api.OK {
		return nil, false, err
	}
	by, ok := r.applied(part)
	if !ok {
		return tree.Moved(e, 0), false, api.OK
	}
	out, err := expr.Replace(e, node, by)
	return out, ok, err
}

// First returns the first rule of a list that can be applied at a node.
func First(l []Rule, e api.Expr, node int) (int, bool, api.Errno) {
	if len(l) > maxRules {
		return 0, false, api.ErrMany
	}
	if err := list.FirstError(list.Map(l, Check)...); err != api.OK {
		return 0, false, err
	}
	part, err := expr.Sub(e, node)
	if err != api.OK {
		return 0, false, err
	}
	for i, r := range l {
		if _, ok := r.applied(part); ok {
			return i, true, api.OK
		}
	}
	return 0, false, api.OK
}
