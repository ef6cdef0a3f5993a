package simp_test

import (
	"math"
	"math/rand"
	"slices"
	"sync"
	"testing"

	"halation/api"
	"halation/expr"
	"halation/lang"
	"halation/num"
	"halation/rule"
	"halation/span"
)

// put returns a node above some expressions.
func put(n api.Node, kids ...api.Expr) api.Expr {
	var out api.Expr
	for _, kid := range kids {
		start := len(out)
		for _, k := range kid {
			var moved []int
			for _, i := range k.Kids {
				moved = append(moved, i+start)
			}
			k.Kids = moved
			out = append(out, k)
		}
		n.Kids = append(n.Kids, len(out)-1)
	}
	return append(out, n)
}

// parsed returns the expression of a text.
func parsed(t *testing.T, s string) api.Expr {
	t.Helper()
	e, at, err := lang.Parse(s, nil)
	if err != api.OK {
		t.Fatal("Parse", s, at, err)
	}
	return e
}

func text(e api.Expr) string {
	s, _ := lang.Print(e, nil)
	return s
}

func of(low, high int) span.Span {
	return span.Span{Low: low, High: high}
}

func variable(name string, low, high int) span.Known {
	return span.Known{Op: api.EVar, Name: name, Span: of(low, high)}
}

// rules are those of the table, made once.
var rules = sync.OnceValue(rule.Rules)

// instances are those of all rules for all their kinds, made once.
var instances = sync.OnceValue(func() []rule.Rule {
	var out []rule.Rule
	for _, r := range rules() {
		for _, kind := range r.Kinds {
			i, _ := rule.Instance(r, kind)
			out = append(out, i)
		}
	}
	return out
})

// maker makes right expressions that can often be simplified.
type maker struct{ *rand.Rand }

func newMaker(seed int64) maker {
	return maker{rand.New(rand.NewSource(seed))}
}

func (m maker) value(kind int) api.Value {
	if kind < api.F32 {
		n := []int64{0, 0, 1, 1, 2, 3, 4, 7, -1, -2, 12, 127, -128, int64(m.Uint64())}[m.Intn(14)]
		v, _ := num.Wrap(kind, n)
		return v
	}
	n, _ := num.Wrap(api.I8, int64(m.Intn(9)-4))
	v, _ := num.Cast(kind, n)
	return v
}

func (m maker) constant(kind int) api.Expr {
	e, _ := expr.Const(m.value(kind))
	return e
}

func (m maker) leaf(kind int) api.Expr {
	switch m.Intn(4) {
	case 0:
		return m.constant(kind)
	case 1, 2:
		if kind == api.I32 {
			return api.Expr{{Op: api.EVar, Kind: kind, Lanes: 1, Name: string("ijkl"[m.Intn(4)])}}
		}
	}
	return api.Expr{{Op: api.EParam, Kind: kind, Lanes: 1, Name: string("xpc"[m.Intn(3)]) + string(rune('a'+kind))}}
}

// expr makes an expression of a kind with one lane; without calls it has values.
func (m maker) expr(kind, depth int, calls bool) api.Expr {
	if depth <= 0 {
		return m.leaf(kind)
	}
	switch m.Intn(10) {
	case 0:
		return m.leaf(kind)
	case 1:
		inner := put(api.Node{Op: api.EBroadcast, Kind: kind, Lanes: 3}, m.expr(kind, depth-1, calls))
		if kind != api.C64 && kind != api.Bool {
			inner = put(api.Node{Op: []int{api.EAdd, api.ESub}[m.Intn(2)], Kind: kind, Lanes: 3}, inner, put(api.Node{Op: api.EBroadcast, Kind: kind, Lanes: 3}, m.constant(kind)))
			if m.Intn(2) == 0 {
				return put(api.Node{Op: api.EReduce, Kind: kind, Lanes: 1, Bits: api.EMax}, inner)
			}
		}
		return put(api.Node{Op: api.EShuffle, Kind: kind, Lanes: 1, Picks: []int{m.Intn(3)}}, inner)
	case 2:
		return put(api.Node{Op: api.ECast, Kind: kind, Lanes: 1}, m.expr(m.Intn(api.C64), depth-1, calls))
	case 3:
		if calls {
			return put(api.Node{Op: api.ECall + m.Intn(3), Kind: kind, Lanes: 1, Name: "f"}, m.expr(api.I32, depth-1, calls))
		}
	case 4:
		if kind == api.Bool {
			v, _ := num.Wrap(api.I32, int64(m.Intn(12)))
			c, _ := expr.Const(v)
			return put(api.Node{Op: api.EEq + m.Intn(4), Kind: kind, Lanes: 1}, m.expr(api.I32, depth-1, calls), c)
		}
	}
	for range 200 {
		if i := instances()[m.Intn(len(instances()))]; i.Left[len(i.Left)-1].Kind == kind {
			return m.filled(i.Left, depth-1, calls)
		}
	}
	return m.leaf(kind)
}

// filled fills a pattern, mostly so that it matches.
func (m maker) filled(pattern api.Expr, depth int, calls bool) api.Expr {
	given := map[string]api.Expr{}
	var fill func(at int) api.Expr
	fill = func(at int) api.Expr {
		n := pattern[at]
		if n.Op == api.EParam {
			if given[n.Name] == nil || m.Intn(20) == 0 {
				given[n.Name] = m.expr(n.Kind, depth, calls)
				if (n.Name == "c" || n.Name == "d") && m.Intn(10) > 0 {
					given[n.Name] = m.constant(n.Kind)
				}
			}
			return given[n.Name]
		}
		var kids []api.Expr
		for _, kid := range n.Kids {
			kids = append(kids, fill(kid))
		}
		n.Kids = nil
		return put(n, kids...)
	}
	return fill(len(pattern) - 1)
}

// some makes a right expression with at most as many nodes.
func (m maker) some(most int, calls bool) api.Expr {
	for {
		if e := m.expr(m.Intn(api.Kinds), 1+m.Intn(4), calls); len(e) <= most {
			return e
		}
	}
}

// known makes what is known of some names; some of it is beyond a kind.
func (m maker) known() []span.Known {
	var out []span.Known
	add := func(op int, name string) {
		if m.Intn(3) > 0 {
			return
		}
		low := m.Intn(20) - 10
		s := of(low, low+[]int{0, 0, 1, 5, 300}[m.Intn(5)])
		if m.Intn(8) == 0 {
			s = of(1<<33, 1<<34)
		}
		out = append(out, span.Known{Op: op, Name: name, Span: s})
	}
	for _, name := range []string{"i", "j", "k", "l"} {
		add(api.EVar, name)
	}
	for kind := range api.C64 {
		for _, name := range []string{"x", "p", "c"} {
			add(api.EParam, name+string(rune('a'+kind)))
		}
	}
	add(api.ECall, "f")
	add(api.EImage, "f")
	return out
}

// bindings returns values within what is known of all names in expressions.
func (m maker) bindings(l []span.Known, all ...api.Expr) []expr.Binding {
	var out []expr.Binding
	for _, n := range slices.Concat(all...) {
		taken := slices.ContainsFunc(out, func(b expr.Binding) bool { return b.Name == n.Name })
		if n.Op != api.EVar && n.Op != api.EParam || taken {
			continue
		}
		v := m.value(n.Kind)
		for _, k := range l {
			whole, err := span.Whole(n.Kind)
			if k.Op != n.Op || k.Name != n.Name || err != api.OK {
				continue
			}
			if s, ok, _ := span.Meet(k.Span, whole); ok {
				v, _ = num.Wrap(n.Kind, int64(s.Low+m.Intn(s.High-s.Low+1)))
			}
		}
		out = append(out, expr.Binding{Name: n.Name, Value: v})
	}
	return out
}

// anyInt returns a number that is often not right.
func (m maker) anyInt() int {
	return []int{-1, 0, 1, 2, 3, m.Intn(300), api.Ops, math.MaxInt, math.MinInt, m.Intn(api.Kinds), 1<<40 + 1}[m.Intn(11)]
}

// spoilt returns an expression with some fields changed.
func (m maker) spoilt(e api.Expr) api.Expr {
	out := slices.Clone(e)
	for range 1 + m.Intn(2) {
		if len(out) == 0 {
			return out
		}
		n := &out[m.Intn(len(out))]
		switch m.Intn(8) {
		case 0:
			n.Op = m.anyInt()
		case 1:
			n.Kind = m.anyInt()
		case 2:
			n.Lanes = m.anyInt()
		case 3:
			n.Name = []string{"", "9", "x", "a b"}[m.Intn(4)]
		case 4:
			n.Bits = uint64(m.anyInt())
		case 5:
			n.Picks = append(slices.Clone(n.Picks), m.anyInt())
		case 6:
			n.Kids = append(slices.Clone(n.Kids), m.anyInt())
		case 7:
			out = out[:m.Intn(len(out)+1)]
		}
	}
	return out
}

// spoiltKnown returns what is known with an element changed.
func (m maker) spoiltKnown(l []span.Known) []span.Known {
	out := slices.Clone(l)
	if len(out) == 0 {
		return append(out, span.Known{})
	}
	k := &out[m.Intn(len(out))]
	switch m.Intn(4) {
	case 0:
		k.Op = m.anyInt()
	case 1:
		k.Name = out[0].Name
	case 2:
		k.Span.Low = m.anyInt()
	case 3:
		k.Span.High = m.anyInt()
	}
	return out
}
