package simp

import (
	"iter"
	"slices"

	"halation/api"
	"halation/expr"
	"halation/list"
	"halation/num"
	"halation/rule"
	"halation/span"
	"halation/tree"
)

// noted is a node with its place, and what is known of it.
type noted struct {
	api.Node
	span.Fact
	at int
}

// nodes visits the nodes at which there may be steps: those with one lane that are no constants.
func (w *work) nodes() iter.Seq[noted] {
	facts, _ := span.Nodes(w.e, w.known)
	return func(yield func(noted) bool) {
		for at, n := range w.e {
			if n.Lanes == 1 && !isConst(n) && !yield(noted{n, facts[at], at}) {
				return
			}
		}
	}
}

func isConst(n api.Node) bool {
	return n.Op == api.EConst
}

// The names of the steps that are no rules.
const (
	stepFold  = "fold"
	stepKnown = "known"
)

// way is a kind of steps: the name of the first one at a node, if there is one, and what the expression is after such a
// step (nothing, if it is none at the node).
type way struct {
	find func(w *work, n noted) (string, bool)
	take func(w *work, n noted, name string) api.Expr
}

// ways returns the kinds of steps, in the order in which the next step is searched.
func ways() [3]way {
	return [...]way{
		{(*work).findFold, (*work).fold},
		{(*work).findKnown, (*work).replaceKnown},
		{(*work).findRule, (*work).apply},
	}
}

// book is the rules, and the places of all steps' names: those of the steps that are no rules are before the rules.
type book struct {
	rules  []rule.Rule
	places map[string]int
}

func newBook() book {
	b := book{rule.Rules(), map[string]int{}}
	names := list.Map(b.rules, func(r rule.Rule) string { return r.Name })
	for place, name := range append([]string{stepFold, stepKnown}, names...) {
		b.places[name] = place
	}
	return b
}

// rule returns the rule with a name.
func (b book) rule(name string) rule.Rule {
	return b.rules[b.places[name]-b.places[stepKnown]-1]
}

// next returns the next step, if there is one.
func (w *work) next() (Step, bool) {
	nodes := slices.Collect(w.nodes())
	found := Step{}
search:
	for _, way := range ways() {
		for _, n := range nodes {
			if name, ok := way.find(w, n); ok {
				found = Step{name, n.at}
				break search
			}
		}
	}
	return found, found != Step{}
}

// take goes on with the expression after a step.
func (w *work) take(s Step) api.Errno {
	place, ok := w.places[s.Rule]
	if !ok || s.Node < 0 || s.Node >= len(w.e) {
		return api.ErrUnknown
	}
	all := ways()
	way := all[min(place, len(all)-1)] // all rules are one kind
	for n := range w.nodes() {
		if n.at != s.Node {
			continue
		}
		if out := way.take(w, n, s.Rule); len(out) > 0 {
			w.e = out
			return api.OK
		}
	}
	return api.ErrProof
}

// replaced returns the expression with a constant at a node.
func (w *work) replaced(n noted, v api.Expr) api.Expr {
	out, _ := expr.Replace(w.e, n.at, v)
	return out
}

func (w *work) findFold(n noted) (string, bool) {
	kids := list.Map(n.Kids, func(kid int) bool { return isConst(w.e[kid]) })
	return stepFold, n.Op >= api.EAdd && n.Op <= api.ESelect && !slices.Contains(kids, false)
}

func (w *work) fold(n noted, _ string) api.Expr {
	if _, ok := w.findFold(n); !ok {
		return nil
	}
	v, _ := expr.Fold(tree.Part(w.e, n.at))
	return w.replaced(n, v)
}

// findKnown finds a node of which just one number is known.
func (w *work) findKnown(n noted) (string, bool) {
	return stepKnown, n.Is && n.Span == span.Span{Low: n.Span.Low, High: n.Span.Low}
}

func (w *work) replaceKnown(n noted, _ string) api.Expr {
	if _, ok := w.findKnown(n); !ok {
		return nil
	}
	number, _ := num.Wrap(n.Kind, int64(n.Span.Low))
	v, _ := expr.Const(number)
	return w.replaced(n, v)
}

// findRule finds the first rule that can be applied at a node. Just those are asked for that look like the node.
func (w *work) findRule(n noted) (string, bool) {
	var like []rule.Rule
	for _, r := range w.rules {
		last := len(r.Left) - 1
		if r.Left[last].Op != n.Op {
			continue
		}
		if s := (sketch{r.Left, w.e, map[string]int{}}); s.looksLike(last, n.at) {
			like = append(like, r)
		}
	}
	if len(like) == 0 {
		return "", false
	}
	at, ok, _ := rule.First(like, w.e, n.at)
	return like[at].Name, ok
}

func (w *work) apply(n noted, name string) api.Expr {
	if out, ok, _ := rule.Apply(w.rule(name), w.e, n.at); ok {
		return out
	}
	return nil
}

// sketch is a pattern beside an expression, and the nodes that are at the places of the wildcards.
type sketch struct {
	pattern, e api.Expr
	bound      map[string]int
}

// looksLike reports whether a pattern may match the expression of a node, as far as it is quickly seen.
func (s sketch) looksLike(at, node int) bool {
	p, n := s.pattern[at], s.e[node]
	if p.Op == api.EParam {
		return s.fits(p.Name, node)
	}
	if p.Op != n.Op {
		return false
	}
	for i, kid := range p.Kids {
		if !s.looksLike(kid, n.Kids[i]) {
			return false
		}
	}
	return true
}

// fits reports whether a node may be at the place of a wildcard.
func (s sketch) fits(name string, node int) bool {
	switch before, twice := s.bound[name]; {
	case twice:
		return tree.First(s.e, node)-node == tree.First(s.e, before)-before && expr.Same(tree.Part(s.e, node), tree.Part(s.e, before))
	case name == "n":
		return !isConst(s.e[node])
	case name == "c" || name == "d":
		return isConst(s.e[node])
	}
	s.bound[name] = node
	return true
}
