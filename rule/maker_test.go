package rule_test

import (
	"math"
	"math/rand"
	"slices"
	"sync"

	"halation/api"
	"halation/expr"
	"halation/num"
	"halation/rule"
)

// tree is an expression whose nodes have their kids below them.
type tree struct {
	node api.Node
	kids []tree
}

func treeOf(e api.Expr, at int) tree {
	out := tree{node: e[at]}
	for _, kid := range e[at].Kids {
		out.kids = append(out.kids, treeOf(e, kid))
	}
	out.node.Kids = nil
	return out
}

func whole(e api.Expr) tree {
	return treeOf(e, len(e)-1)
}

func (x tree) exprFrom(out api.Expr) api.Expr {
	n := x.node
	n.Kids = nil
	for _, kid := range x.kids {
		out = kid.exprFrom(out)
		n.Kids = append(n.Kids, len(out)-1)
	}
	return append(out, n)
}

func (x tree) expr() api.Expr {
	return x.exprFrom(nil)
}

func (x tree) equal(y tree) bool {
	return expr.Same(x.expr(), y.expr())
}

// parts returns a tree and all below it.
func (x tree) parts() []tree {
	var out []tree
	for _, kid := range x.kids {
		out = append(out, kid.parts()...)
	}
	return append(out, x)
}

func put(n api.Node, kids ...api.Expr) api.Expr {
	x := tree{node: n}
	for _, kid := range kids {
		x.kids = append(x.kids, whole(kid))
	}
	return x.expr()
}

func constOf(kind int, bits uint64) api.Expr {
	return api.Expr{{Op: api.EConst, Kind: kind, Lanes: 1, Bits: bits}}
}

func paramOf(kind int, name string) api.Expr {
	return api.Expr{{Op: api.EParam, Kind: kind, Lanes: 1, Name: name}}
}

// maker makes right expressions at which rules can often be applied.
type maker struct{ *rand.Rand }

// instances are those of all rules for all their kinds, made once.
var instances = sync.OnceValue(func() []rule.Rule {
	var out []rule.Rule
	for _, r := range rule.Rules() {
		for _, kind := range r.Kinds {
			i, err := rule.Instance(r, kind)
			if err != api.OK {
				panic("no instance")
			}
			out = append(out, i)
		}
	}
	return out
})

func newMaker(seed int64) maker {
	return maker{rand.New(rand.NewSource(seed))}
}

// value returns a value that is often 0, 1, or at an end of its kind.
func (m maker) value(kind int) api.Value {
	if kind < api.F32 {
		n := []int64{0, 0, 1, 1, 2, 3, 4, 7, -1, -2, -3, 12, 127, -128, 255, int64(m.Uint64())}[m.Intn(16)]
		v, _ := num.Wrap(kind, n)
		return v
	}
	n, _ := num.Wrap(api.I8, int64(m.Intn(9)-4))
	x, _ := num.Cast(kind, n)
	if kind == api.F32 && m.Intn(3) == 0 {
		x, _ = num.FromFloat(float32(m.NormFloat64() * 1000))
	}
	return x
}

func (m maker) constant(kind int) api.Expr {
	e, _ := expr.Const(m.value(kind))
	return e
}

// leaf has names that wildcards have, too.
func (m maker) leaf(kind int) api.Expr {
	switch m.Intn(5) {
	case 0, 1:
		return m.constant(kind)
	case 2:
		if kind == api.I32 {
			return api.Expr{{Op: api.EVar, Kind: kind, Lanes: 1, Name: string("xyij"[m.Intn(4)])}}
		}
	}
	return paramOf(kind, string("xycdnb"[m.Intn(6)])+string(rune('a'+kind)))
}

// expr makes an expression of a kind with one lane.
func (m maker) expr(kind, depth int) api.Expr {
	if depth <= 0 {
		return m.leaf(kind)
	}
	switch m.Intn(12) {
	case 0:
		return m.leaf(kind)
	case 1:
		return m.lanes(kind, depth-1)
	case 2:
		from := m.Intn(api.C64)
		return put(api.Node{Op: api.ECast, Kind: kind, Lanes: 1}, m.expr(from, depth-1))
	case 3:
		return put(api.Node{Op: api.ECall + m.Intn(3), Kind: kind, Lanes: 1, Name: "f"}, m.expr(api.I32, depth-1))
	}
	for range 200 {
		i := instances()[m.Intn(len(instances()))]
		if i.Left[len(i.Left)-1].Kind == kind {
			return m.filled(i.Left, depth-1)
		}
	}
	return m.leaf(kind)
}

// lanes makes an expression with one lane that has several ones in it.
func (m maker) lanes(kind, depth int) api.Expr {
	inner := put(api.Node{Op: api.EBroadcast, Kind: kind, Lanes: 3}, m.expr(kind, depth))
	if kind == api.I32 && m.Intn(2) == 0 {
		inner = put(api.Node{Op: api.ERamp, Kind: kind, Lanes: 3}, m.expr(kind, depth-1), m.expr(kind, depth-1))
	}
	if kind != api.C64 && kind != api.Bool && m.Intn(2) == 0 {
		zero := put(api.Node{Op: api.EBroadcast, Kind: kind, Lanes: 3}, constOf(kind, 0))
		inner = put(api.Node{Op: []int{api.EAdd, api.ESub, api.EMul}[m.Intn(3)], Kind: kind, Lanes: 3}, inner, zero)
	}
	if kind != api.C64 && kind != api.Bool && m.Intn(2) == 0 {
		return put(api.Node{Op: api.EReduce, Kind: kind, Lanes: 1, Bits: api.EMin}, inner)
	}
	return put(api.Node{Op: api.EShuffle, Kind: kind, Lanes: 1, Picks: []int{m.Intn(3)}}, inner)
}

// filled fills a pattern, mostly so that it matches.
func (m maker) filled(pattern api.Expr, depth int) api.Expr {
	given := map[string]api.Expr{}
	var fill func(x tree) tree
	fill = func(x tree) tree {
		if x.node.Op == api.EParam {
			name, kind := x.node.Name, x.node.Kind
			if given[name] == nil || m.Intn(20) == 0 {
				given[name] = m.expr(kind, depth)
				if (name == "c" || name == "d") && m.Intn(20) > 0 {
					given[name] = m.constant(kind)
				}
			}
			return whole(given[name])
		}
		if x.node.Op == api.EConst && m.Intn(10) == 0 {
			return whole(m.constant(x.node.Kind))
		}
		var kids []tree
		for _, kid := range x.kids {
			kids = append(kids, fill(kid))
		}
		return tree{x.node, kids}
	}
	return fill(whole(pattern)).expr()
}

// some makes a right expression with at most as many nodes.
func (m maker) some(most int) api.Expr {
	for {
		if e := m.expr(m.Intn(api.Kinds), 1+m.Intn(4)); len(e) <= most {
			return e
		}
	}
}

// patternOf makes a pattern of an expression without calls: some parts become wildcards, the same one for the same part.
func (m maker) patternOf(e api.Expr, often int) api.Expr {
	taken := map[string]tree{}
	var change func(x tree) tree
	change = func(x tree) tree {
		wild := m.Intn(often) == 0 || x.node.Op >= api.EVar && x.node.Op <= api.ELoad || x.node.Lanes != 1
		if wild {
			for _, name := range []string{"c", "d", "n", "x", "y", "b"} {
				before, ok := taken[name]
				fits := x.node.Lanes == 1 && (name > "d" || name == "b" || x.node.Op == api.EConst) && (name != "n" || x.node.Op != api.EConst)
				if ok && before.node.Kind == x.node.Kind && (before.equal(x) || m.Intn(10) == 0) || !ok && (fits || m.Intn(30) == 0) && m.Intn(3) > 0 {
					taken[name] = x
					return whole(paramOf(x.node.Kind, name))
				}
			}
		}
		var kids []tree
		for _, kid := range x.kids {
			kids = append(kids, change(kid))
		}
		return tree{x.node, kids}
	}
	return change(whole(e)).expr()
}

// bindings returns values of all variables and parameters of an expression without calls.
func (m maker) bindings(e api.Expr) []expr.Binding {
	var out []expr.Binding
	for _, n := range e {
		known := slices.ContainsFunc(out, func(b expr.Binding) bool { return b.Name == n.Name })
		if (n.Op == api.EVar || n.Op == api.EParam) && !known {
			out = append(out, expr.Binding{Name: n.Name, Value: m.value(n.Kind)})
		}
	}
	return out
}

// anyInt returns a number that is often not right.
func (m maker) anyInt() int {
	return []int{-1, 0, 1, 2, 3, m.Intn(300), api.Ops, math.MaxInt, math.MinInt, m.Intn(api.Kinds)}[m.Intn(10)]
}

// spoilt returns an expression with some fields changed.
func (m maker) spoilt(e api.Expr) api.Expr {
	out := slices.Clone(e)
	for range 1 + m.Intn(2) {
		if len(out) == 0 {
			return out
		}
		n := &out[m.Intn(len(out))]
		switch m.Intn(9) {
		case 0:
			n.Op = []int{m.anyInt(), m.Intn(api.Ops)}[m.Intn(2)]
		case 1:
			n.Kind = m.anyInt()
		case 2:
			n.Lanes = m.anyInt()
		case 3:
			n.Name = []string{"", "9", "x", "y", "c", "d", "n", "b", "q", "a b"}[m.Intn(10)]
		case 4:
			n.Bits = uint64(m.anyInt())
		case 5:
			n.Picks = append(slices.Clone(n.Picks), m.anyInt())
		case 6:
			n.Kids = append(slices.Clone(n.Kids), m.anyInt())
		case 7:
			out = out[:m.Intn(len(out)+1)]
		case 8:
			if n.Op == api.EParam {
				n.Name = string("cdnxyb"[m.Intn(6)])
			}
		}
	}
	return out
}
