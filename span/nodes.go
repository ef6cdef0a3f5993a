package span

import (
	"iter"

	"halation/api"
	"halation/expr"
	"halation/list"
	"halation/tree"
)

// noted is a node with what is known of it.
type noted struct {
	api.Node
	Fact
}

// notes are what is known of a right expression's nodes, as far as they have been visited.
type notes struct {
	expression api.Expr
	sources    sources
	done       []noted
}

func (l *notes) at(node int) noted {
	return l.done[node]
}

// nodes visits the nodes of an expression from the first to the last one.
func nodes(e api.Expr) iter.Seq[api.Node] {
	return func(yield func(api.Node) bool) {
		for _, n := range e {
			if !yield(n) {
				return
			}
		}
	}
}

// notesOf returns what is known of all nodes of an expression.
func notesOf(e api.Expr, l []Known) ([]noted, api.Errno) {
	if err := expr.Check(e); err != api.OK {
		return nil, err
	}
	known, err := sourcesOf(l)
	if err != api.OK {
		return nil, err
	}
	out := notes{expression: e, sources: known}
	for n := range nodes(e) {
		fact := Fact{Is: IsSmall(n.Kind)}
		if fact.Is {
			fact.Span = out.spanOf(n)
		}
		out.done = append(out.done, noted{n, fact})
	}
	return out.done, api.OK
}

// Nodes returns what is known of each node of an expression.
func Nodes(e api.Expr, l []Known) ([]Fact, api.Errno) {
	all, err := notesOf(e, l)
	if err != api.OK {
		return nil, err
	}
	return list.Map(all, func(n noted) Fact { return n.Fact }), api.OK
}

// Of returns what is known of an expression.
func Of(e api.Expr, l []Known) (Fact, api.Errno) {
	all, err := notesOf(e, l)
	if err != api.OK {
		return Fact{}, err
	}
	return all[len(all)-1].Fact, api.OK
}

// Decide returns 1 for a condition that is always true, 0 for one that never is, and otherwise -1.
func Decide(e api.Expr, l []Known) (int, api.Errno) {
	all, err := notesOf(e, l)
	if err != api.OK {
		return 0, err
	}
	switch whole := all[len(all)-1]; {
	case whole.Kind != api.Bool:
		return 0, api.ErrType
	case whole.Span == single(whole.Span.Low):
		return whole.Span.Low, api.OK
	}
	return -1, api.OK
}

// spanOf returns the span of a node of a small kind, whose kids have been visited.
func (l *notes) spanOf(n api.Node) Span {
	kids := list.Map(n.Kids, l.at)
	switch n.Op {
	case api.EConst:
		return single(numberOf(api.Value{Kind: n.Kind, Bits: n.Bits}))
	case api.EVar, api.EParam, api.ECall, api.EImage, api.ELoad:
		return l.sources.spanOf(n)
	case api.ESelect:
		return selected(kids[0].Span, kids[1].Span, kids[2].Span)
	case api.ERamp:
		steps := applied(api.EMul, api.I32, Span{0, n.Lanes - 1}, kids[1].Span)
		return applied(api.EAdd, api.I32, kids[0].Span, steps)
	case api.EBroadcast, api.EShuffle:
		return kids[0].Span
	case api.EReduce:
		return reduced(int(n.Bits), kids[0])
	}
	if s, ok := ofSame(n.Op, kids); ok && l.areSame(n) {
		return s
	}
	return computed(n, kids)
}

// spanOf returns what is known of a node with a name.
func (l sources) spanOf(n api.Node) Span {
	whole := wholeOf(n.Kind)
	if known, ok := l[source{n.Op, n.Name}]; ok && !known.common(whole).isEmpty() {
		return known.common(whole)
	}
	return whole
}

func selected(condition, a, b Span) Span {
	switch condition {
	case single(1):
		return a
	case single(0):
		return b
	}
	return a.hull(b)
}

// reduced returns the span of the lanes of a kid, combined one by one.
func reduced(op int, kid noted) Span {
	out := kid.Span
	for range kid.Lanes - 1 {
		out = applied(op, kid.Kind, out, kid.Span)
	}
	return out
}

// ofSame returns the span of an operation whose kids are the same expression, if more is known of it then.
func ofSame(op int, kids []noted) (Span, bool) {
	switch op {
	case api.ESub, api.EXor, api.EDist, api.ENe, api.ELt:
		return single(0), true
	case api.EEq, api.ELe:
		return single(1), true
	case api.EMin, api.EMax, api.EAnd, api.EOr, api.EAvg:
		return kids[0].Span, true
	}
	return Span{}, false
}

// areSame reports whether both kids of a node are the same expression.
func (l *notes) areSame(n api.Node) bool {
	e, a, b := l.expression, n.Kids[0], n.Kids[1]
	first, apart := tree.First(e, a), b-a // the second kid's nodes stand between both kids
	return a-first+1 == apart && expr.Same(e[first:a+1], tree.Moved(e[a+1:b+1], -apart))
}

// computed returns the span of an operation or a conversion by the spans of its kids.
func computed(n api.Node, kids []noted) Span {
	kid := kids[0]
	switch {
	case !kid.Is:
		return wholeOf(n.Kind)
	case n.Op == api.ENot:
		return inverted(n.Kind, kid.Span)
	case n.Op == api.ECast || n.Op == api.ESat:
		return converted(n.Op, n.Kind, kid.Span)
	}
	return applied(n.Op, kid.Kind, kid.Span, kids[1].Span)
}
