package span_test

import (
	"fmt"
	"math/rand"

	"halation/api"
	"halation/expr"
	"halation/num"
	"halation/span"
)

// maker makes right expressions of all kinds, in which the same part often stands twice.
type maker struct {
	*rand.Rand
	calls bool // whether there are calls, inputs and loads
}

// put returns a node above some expressions.
func put(n api.Node, kids ...api.Expr) api.Expr {
	var out api.Expr
	for _, kid := range kids {
		start := len(out)
		for _, k := range kid {
			var moved []int
			for _, i := range k.Kids {
				moved = append(moved, i+start)
			}
			k.Kids = moved
			out = append(out, k)
		}
		n.Kids = append(n.Kids, len(out)-1)
	}
	return append(out, n)
}

func (m maker) leaf(kind int) api.Expr {
	switch choice := m.Intn(4); {
	case choice < 2 && kind == api.I32:
		return api.Expr{{Op: api.EVar, Kind: kind, Lanes: 1, Name: string(rune('x' + m.Intn(3)))}}
	case choice < 3:
		return api.Expr{{Op: api.EParam, Kind: kind, Lanes: 1, Name: fmt.Sprint("p", kind)}}
	}
	v, _ := num.Cast(kind, valueOf(api.I8, m.Intn(9)-4))
	if num.IsInt(kind) && m.Intn(4) == 0 {
		v, _ = num.Wrap(kind, int64(m.Uint64()))
	}
	e, _ := expr.Const(v)
	return e
}

func (m maker) make(kind, lanes, depth int) api.Expr {
	switch {
	case lanes > 1 && (depth <= 0 || m.Intn(3) == 0):
		return m.spread(kind, lanes, depth-1)
	case depth <= 0:
		return m.leaf(kind)
	}
	switch m.Intn(9) {
	case 0, 1:
		return m.cast(kind, lanes, depth-1)
	case 2:
		return put(api.Node{Op: api.ESelect, Kind: kind, Lanes: lanes}, m.make(api.Bool, lanes, depth-1), m.make(kind, lanes, depth-1), m.make(kind, lanes, depth-1))
	case 3:
		return m.picked(kind, lanes, depth-1)
	case 4:
		if m.calls {
			return m.call(kind, lanes, depth-1)
		}
	case 5:
		if kind < api.F32 {
			return put(api.Node{Op: api.ENot, Kind: kind, Lanes: lanes}, m.make(kind, lanes, depth-1))
		}
	}
	return m.binary(kind, lanes, depth-1)
}

func (m maker) binary(kind, lanes, depth int) api.Expr {
	for {
		op, from := api.EAdd+m.Intn(api.ELe-api.EAdd+1), m.Intn(api.Kinds)
		if op < api.EDist || op == api.EDist && m.Intn(2) == 0 {
			from = kind
		} else if op == api.EDist {
			from = kind + api.I8 - api.U8
		}
		if to, err := num.Result(op, from); err != api.OK || to != kind {
			continue
		}
		a, b := m.make(from, lanes, depth), m.make(from, lanes, depth)
		if m.Intn(3) == 0 {
			b = a
		}
		return put(api.Node{Op: op, Kind: kind, Lanes: lanes}, a, b)
	}
}

func (m maker) cast(kind, lanes, depth int) api.Expr {
	from := m.Intn(api.C64)
	if kind == api.C64 && m.Intn(2) == 0 {
		from = api.C64
	}
	op := api.ECast
	if num.IsInt(kind) && (num.IsInt(from) || from == api.F32) && m.Intn(2) == 0 {
		op = api.ESat
	}
	return put(api.Node{Op: op, Kind: kind, Lanes: lanes}, m.make(from, lanes, depth))
}

func (m maker) spread(kind, lanes, depth int) api.Expr {
	if kind == api.I32 && m.Intn(2) == 0 {
		return put(api.Node{Op: api.ERamp, Kind: kind, Lanes: lanes}, m.make(kind, 1, depth), m.make(kind, 1, depth))
	}
	return put(api.Node{Op: api.EBroadcast, Kind: kind, Lanes: lanes}, m.make(kind, 1, depth))
}

func (m maker) picked(kind, lanes, depth int) api.Expr {
	op := []int{api.EAdd, api.EMin, api.EMax, api.EAnd, api.EOr, api.EXor}[m.Intn(6)]
	if to, err := num.Result(op, kind); lanes == 1 && err == api.OK && to == kind && m.Intn(2) == 0 {
		return put(api.Node{Op: api.EReduce, Kind: kind, Lanes: 1, Bits: uint64(op)}, m.make(kind, 2+m.Intn(4), depth))
	}
	from := 1 + m.Intn(5)
	n := api.Node{Op: api.EShuffle, Kind: kind, Lanes: lanes}
	for range lanes {
		n.Picks = append(n.Picks, m.Intn(from))
	}
	return put(n, m.make(kind, from, depth))
}

func (m maker) call(kind, lanes, depth int) api.Expr {
	n := api.Node{Op: api.ECall + m.Intn(3), Kind: kind, Lanes: lanes, Name: string(rune('f' + m.Intn(2)))}
	if n.Op == api.ELoad || m.Intn(2) == 0 {
		return put(n, m.make(api.I32, lanes, depth))
	}
	return put(n, m.make(api.I32, lanes, depth), m.make(api.I32, lanes, depth))
}

// makeExpr makes an expression of any kind.
func makeExpr(seed int64, calls bool) api.Expr {
	m := maker{rand.New(rand.NewSource(seed)), calls}
	for {
		e := m.make(m.Intn(api.Kinds), []int{1, 1, 1, 2, 4, 32}[m.Intn(6)], 1+m.Intn(5))
		if len(e) <= api.MaxNodes {
			return e
		}
	}
}

// makeKnown makes what is known of some of the names of expressions; some of it has nothing in common with the kind.
func makeKnown(seed int64) []span.Known {
	r := rand.New(rand.NewSource(seed))
	var out []span.Known
	add := func(op int, name string, kind int) {
		s := makeWide(r, kind)
		switch r.Intn(8) {
		case 0, 1, 2:
			return
		case 3:
			s = of(s.Low-300, s.High+300)
		case 4:
			s = of(1<<33, 1<<34)
		}
		out = append(out, span.Known{Op: op, Name: name, Span: s})
	}
	for _, name := range []string{"x", "y", "z"} {
		add(api.EVar, name, api.I32)
	}
	for kind := range api.Kinds {
		small := kind
		if _, ok := wholeOf(kind); !ok {
			small = api.U16
		}
		add(api.EParam, fmt.Sprint("p", kind), small)
	}
	for _, op := range []int{api.ECall, api.EImage, api.ELoad} {
		add(op, "f", api.I16)
		add(op, "g", api.U8)
	}
	return out
}
