package expr_test

import (
	"math/rand"
	"slices"
	"testing"

	"halation/api"
	"halation/expr"
	"halation/num"
)

// node returns a node with one lane.
func node(op, kind int, name string, bits uint64, kids ...int) api.Node {
	return api.Node{Op: op, Kind: kind, Lanes: 1, Name: name, Bits: bits, Kids: kids}
}

// vector returns a node with several lanes.
func vector(op, kind, lanes int, kids ...int) api.Node {
	return api.Node{Op: op, Kind: kind, Lanes: lanes, Kids: kids}
}

// variable and integer are expressions of one node.
func variable(name string) api.Expr { return api.Expr{node(api.EVar, api.I32, name, 0)} }
func integer(n int32) api.Expr      { return api.Expr{node(api.EConst, api.I32, "", uint64(uint32(n)))} }

// example returns the document's E: (x + 3) * x.
func example() api.Expr {
	return api.Expr{node(api.EVar, api.I32, "x", 0), node(api.EConst, api.I32, "", 3), node(api.EAdd, api.I32, "", 0, 0, 1), node(api.EVar, api.I32, "x", 0), node(api.EMul, api.I32, "", 0, 2, 3)}
}

// chain returns x + x + .. with an odd number of nodes.
func chain(nodes int) api.Expr {
	e := variable("x")
	for len(e) < nodes {
		last := len(e) - 1
		e = append(e, node(api.EVar, api.I32, "x", 0), node(api.EAdd, api.I32, "", 0, last, last+1))
	}
	return e
}

// copied returns a copy of an expression that shares no memory with it.
func copied(e api.Expr) api.Expr {
	out := slices.Clone(e)
	for i := range out {
		out[i].Kids, out[i].Picks = slices.Clone(out[i].Kids), slices.Clone(out[i].Picks)
	}
	return out
}

// equal reports whether two expressions have equal nodes, field by field.
func equal(a, b api.Expr) bool {
	return slices.EqualFunc(a, b, func(x, y api.Node) bool {
		return x.Op == y.Op && x.Kind == y.Kind && x.Lanes == y.Lanes && x.Name == y.Name && x.Bits == y.Bits && slices.Equal(x.Kids, y.Kids) && slices.Equal(x.Picks, y.Picks)
	})
}

// tree is an expression as the document means it, without places.
type tree struct {
	node api.Node
	kids []tree
}

func treeOf(e api.Expr, at int) tree {
	out := tree{node: e[at]}
	for _, kid := range e[at].Kids {
		out.kids = append(out.kids, treeOf(e, kid))
	}
	return out
}

// nodes returns the nodes of a tree in post-order, after those that there are.
func (t tree) nodes(before api.Expr) api.Expr {
	n := t.node
	n.Kids = nil
	for _, kid := range t.kids {
		before = kid.nodes(before)
		n.Kids = append(n.Kids, len(before)-1)
	}
	return append(before, n)
}

// changed returns a tree in which change has been applied to each node, the kids first.
func (t tree) changed(change func(tree) tree) tree {
	out := tree{node: t.node}
	for _, kid := range t.kids {
		out.kids = append(out.kids, kid.changed(change))
	}
	return change(out)
}

// maker makes right expressions of all forms.
type maker struct {
	random *rand.Rand
	calls  bool
	nodes  api.Expr
}

func makeExpr(seed int64, calls bool) api.Expr {
	m := maker{random: rand.New(rand.NewSource(seed)), calls: calls}
	for {
		m.nodes = nil
		m.add(m.random.Intn(api.Kinds), []int{1, 1, 1, 2, 4, 32}[m.random.Intn(6)], 1+m.random.Intn(5))
		if len(m.nodes) <= api.MaxNodes {
			return m.nodes
		}
	}
}

func (m *maker) put(n api.Node) int {
	m.nodes = append(m.nodes, n)
	return len(m.nodes) - 1
}

// bitsOf returns the bits of a value, often a small one.
func (m *maker) bitsOf(kind int) uint64 {
	v, _ := num.Cast(kind, api.Value{Kind: api.I16, Bits: uint64(uint16(m.random.Intn(12) - 6))})
	if v.Kind != api.F32 && v.Kind != api.C64 && m.random.Intn(3) == 0 {
		v, _ = num.Wrap(kind, int64(m.random.Uint64()))
	}
	return v.Bits
}

// leaf adds an expression of one lane without kids.
func (m *maker) leaf(kind int) int {
	switch choice := m.random.Intn(4); {
	case choice == 0 && kind == api.I32:
		return m.put(node(api.EVar, kind, []string{"x", "y", "_z1"}[m.random.Intn(3)], 0))
	case choice == 1:
		name, _ := num.Name(kind)
		return m.put(node(api.EParam, kind, "p_"+name, 0))
	}
	return m.put(node(api.EConst, kind, "", m.bitsOf(kind)))
}

// add adds an expression of a kind with some lanes, and returns its place.
func (m *maker) add(kind, lanes, depth int) int {
	switch {
	case depth == 0 && lanes == 1:
		return m.leaf(kind)
	case depth == 0 && kind == api.I32 && m.random.Intn(2) == 0:
		base, step := m.add(kind, 1, 0), m.add(kind, 1, 0)
		return m.put(vector(api.ERamp, kind, lanes, base, step))
	case depth == 0:
		return m.put(vector(api.EBroadcast, kind, lanes, m.leaf(kind)))
	}
	switch m.random.Intn(8) {
	case 0:
		return m.addCast(kind, lanes, depth-1)
	case 1:
		c, a, b := m.add(api.Bool, lanes, depth-1), m.add(kind, lanes, depth-1), m.add(kind, lanes, depth-1)
		return m.put(vector(api.ESelect, kind, lanes, c, a, b))
	case 2:
		return m.addPicked(kind, lanes, depth-1)
	case 3:
		return m.addCall(kind, lanes, depth-1)
	case 4:
		if kind < api.F32 {
			return m.put(vector(api.ENot, kind, lanes, m.add(kind, lanes, depth-1)))
		}
	}
	return m.addBinary(kind, lanes, depth-1)
}

func (m *maker) addBinary(kind, lanes, depth int) int {
	for {
		op, from := api.EAdd+m.random.Intn(api.ELe-api.EAdd+1), m.random.Intn(api.Kinds)
		if op < api.EDist {
			from = kind
		}
		if to, e := num.Result(op, from); e == api.OK && to == kind {
			a, b := m.add(from, lanes, depth), m.add(from, lanes, depth)
			return m.put(vector(op, kind, lanes, a, b))
		}
	}
}

func (m *maker) addCast(kind, lanes, depth int) int {
	op, from := api.ECast, m.random.Intn(api.C64)
	if num.IsInt(kind) && (num.IsInt(from) || from == api.F32) && m.random.Intn(2) == 0 {
		op = api.ESat
	}
	if kind == api.C64 && m.random.Intn(2) == 0 {
		from = api.C64
	}
	return m.put(vector(op, kind, lanes, m.add(from, lanes, depth)))
}

// addPicked adds a shuffle, or a reduction of one where the kind has one.
func (m *maker) addPicked(kind, lanes, depth int) int {
	from := 1 + m.random.Intn(5)
	n := vector(api.EShuffle, kind, lanes, m.add(kind, from, depth))
	for range lanes {
		n.Picks = append(n.Picks, m.random.Intn(from))
	}
	op := []int{api.EAdd, api.EMin, api.EMax, api.EAnd, api.EOr, api.EXor}[m.random.Intn(6)]
	if _, e := num.Result(op, kind); lanes > 1 || e != api.OK {
		return m.put(n)
	}
	n.Lanes, n.Picks = 3, []int{0, from - 1, m.random.Intn(from)}
	return m.put(node(api.EReduce, kind, "", uint64(op), m.put(n)))
}

func (m *maker) addCall(kind, lanes, depth int) int {
	if !m.calls {
		return m.addBinary(kind, lanes, depth)
	}
	n := vector(api.ECall+m.random.Intn(3), kind, lanes)
	n.Name = []string{"f", "g", "in"}[m.random.Intn(3)]
	indices := 1 + m.random.Intn(api.MaxDims)
	if n.Op == api.ELoad {
		indices = 1
	}
	for range indices {
		n.Kids = append(n.Kids, m.add(api.I32, lanes, depth))
	}
	return m.put(n)
}

// bindings are values for all variables and parameters of a made expression.
func bindings(seed int64) []expr.Binding {
	m := maker{random: rand.New(rand.NewSource(seed))}
	var out []expr.Binding
	for _, name := range []string{"x", "y", "_z1"} {
		out = append(out, expr.Binding{Name: name, Value: api.Value{Kind: api.I32, Bits: m.bitsOf(api.I32)}})
	}
	for kind := range api.Kinds {
		name, _ := num.Name(kind)
		out = append(out, expr.Binding{Name: "p_" + name, Value: api.Value{Kind: kind, Bits: m.bitsOf(kind)}})
	}
	return out
}

const madeExprs = 3000

// TestMaker keeps the made expressions as various as the other tests need them.
func TestMaker(t *testing.T) {
	var seen [api.Ops]int
	for seed := range int64(madeExprs) {
		e := makeExpr(seed, true)
		if err := expr.Check(e); err != api.OK {
			t.Fatal("a made expression is not right", seed, err, e)
		}
		for _, n := range e {
			seen[n.Op]++
		}
	}
	for op, n := range seen {
		if n < 20 {
			t.Error("an Op is rare", op, n)
		}
	}
}
