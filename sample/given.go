package sample

import (
	"slices"

	"halation/api"
	"halation/image"
	"halation/num"
	"halation/stmt"
)

// Given returns what a right program can be given; some of the images are not dense.
func (m Maker) Given(p api.Program) api.Given {
	var out api.Given
	for _, b := range p.Buffers[:len(p.Buffers)-1] {
		out.Images = append(out.Images, m.Image(b.Kind, b.Box))
	}
	for _, x := range p.Params {
		out.Params = append(out.Params, m.Param(x))
	}
	return out
}

// Param returns a value for a parameter, one of the least of its range.
func (m Maker) Param(x api.Param) api.Value {
	n := x.Low + int64(m.Intn(int(min(x.High-x.Low, 9))+1))
	v, err := num.Wrap(x.Kind, n)
	if err != api.OK { // a float
		v, _ = num.FromFloat(float32(n))
	}
	return v
}

// Image returns an image of small values, in any strides.
func (m Maker) Image(kind int, b api.Box) api.Image {
	out := api.Image{Kind: kind, Box: slices.Clone(b)}
	stride := 1 + m.Intn(2)
	for _, r := range b {
		out.Strides = append(out.Strides, stride)
		stride *= max(1, r.Extent)
	}
	for range stride {
		v, _ := num.Cast(kind, api.Value{Kind: api.U8, Bits: uint64(m.Intn(one(m, 2, 9, 256)))})
		out.Data = append(out.Data, v.Bits)
	}
	if image.Check(out) != api.OK { // it is too large for these strides
		out.Strides, out.Data = nil, nil
		stride = 1
		for _, r := range b {
			out.Strides = append(out.Strides, stride)
			stride *= r.Extent
		}
		out.Data = make([]uint64, stride)
	}
	return out
}

// copiedProgram returns a program that shares no memory with another one.
func copiedProgram(p api.Program) api.Program {
	out := api.Program{Buffers: slices.Clone(p.Buffers), Params: slices.Clone(p.Params), Stmts: stmt.Moved(p.Stmts, 0)}
	for i := range out.Buffers {
		out.Buffers[i].Box = slices.Clone(out.Buffers[i].Box)
	}
	return out
}

// Names returns the names that there are in a program, and some that are none.
func Names(p api.Program) []string {
	out := []string{"nowhere", "", "9x"}
	for _, b := range p.Buffers {
		out = append(out, b.Name)
	}
	for _, x := range p.Params {
		out = append(out, x.Name)
	}
	for _, s := range p.Stmts {
		if s.Name != "" {
			out = append(out, s.Name)
		}
	}
	return out
}

// SpoiltProgram returns a program of which something may be wrong.
func (m Maker) SpoiltProgram(p api.Program) api.Program {
	p = copiedProgram(p)
	for range 1 + m.Intn(2) {
		switch m.Intn(6) {
		case 0:
			m.spoilHead(&p)
		case 1:
			m.wrap(&p)
		default:
			if len(p.Stmts) > 0 {
				m.spoilStmt(&p)
			}
		}
	}
	return p
}

// spoilHead changes something of what a program is given, or the list of its statements.
func (m Maker) spoilHead(p *api.Program) {
	switch choice := m.Intn(12); {
	case choice < 4 && len(p.Buffers) > 0:
		b := &p.Buffers[m.Intn(len(p.Buffers))]
		switch choice {
		case 0:
			b.Name = one(m, Names(*p)...)
		case 1:
			b.Kind = m.Number()
		case 2:
			b.Box = append(b.Box, api.Range{Min: m.Number(), Extent: m.Number()})
		case 3:
			b.Kind = m.Intn(api.Kinds)
		}
	case choice < 8 && len(p.Params) > 0:
		x := &p.Params[m.Intn(len(p.Params))]
		switch choice {
		case 4:
			x.Name = one(m, Names(*p)...)
		case 5:
			x.Kind = one(m, m.Number(), m.Intn(api.Kinds))
		case 6:
			x.Low = int64(m.Number())
		case 7:
			x.High = int64(m.Number())
		}
	case choice == 8:
		for range 1 + m.Intn(6) {
			p.Buffers = append(p.Buffers, api.Buffer{Name: "more" + string(rune('a'+len(p.Buffers))), Kind: api.U8, Box: api.Box{{Extent: 1}}})
		}
	case choice == 9:
		for range 1 + m.Intn(5) {
			p.Params = append(p.Params, api.Param{Name: "many" + string(rune('a'+len(p.Params))), Kind: api.U8})
		}
	case choice == 10:
		p.Stmts = p.Stmts[:m.Intn(len(p.Stmts)+1)]
	case choice == 11:
		p.Buffers = p.Buffers[:m.Intn(len(p.Buffers)+1)]
	}
}

// wrap puts a statement around another one.
func (m Maker) wrap(p *api.Program) {
	if len(p.Stmts) == 0 {
		return
	}
	at := m.Intn(len(p.Stmts))
	number := func(n int) api.Expr {
		return api.Expr{{Op: api.EConst, Kind: api.I32, Lanes: 1, Bits: uint64(uint32(int32(n)))}}
	}
	name := one(m, append(Names(*p), "w1", "w2", "w3")...)
	around := one(m,
		api.Stmt{Op: api.SMark, Name: name},
		api.Stmt{Op: api.SBlock},
		api.Stmt{Op: api.SLet, Name: name, Exprs: []api.Expr{number(1)}},
		api.Stmt{Op: api.SAlloc, Name: name, Kind: m.Intn(api.Kinds), Exprs: []api.Expr{number(one(m, 1, 4, 4096, 4097, 0))}},
		api.Stmt{Op: api.SFor, Name: name, Loop: m.Intn(api.Loops), Exprs: []api.Expr{number(0), number(one(m, 0, 1, 2, 32, 33, 64, 65, -1))}},
		api.Stmt{Op: api.SFor, Name: name, Loop: m.Intn(api.Loops), Exprs: []api.Expr{number(0), number(1)}})
	around.Kids = []int{at}
	rest := stmt.Moved(p.Stmts[at+1:], 0)
	for _, s := range rest {
		for k := range s.Kids {
			if s.Kids[k] >= at {
				s.Kids[k]++
			}
		}
	}
	p.Stmts = slices.Concat(p.Stmts[:at+1], []api.Stmt{around}, rest)
}

// spoilStmt changes something of a statement.
func (m Maker) spoilStmt(p *api.Program) {
	at := m.Intn(len(p.Stmts))
	s := &p.Stmts[at]
	switch choice := m.Intn(16); {
	case choice < 3:
		s.Name = one(m, Names(*p)...)
	case choice == 3:
		s.Loop = one(m, m.Intn(api.Loops), m.Intn(api.Loops), m.Number())
	case choice == 4:
		s.Kind = one(m, m.Intn(api.Kinds), m.Number())
	case choice == 5:
		s.Op = one(m, m.Intn(api.Stmts), m.Number())
	case choice == 6:
		s.Kids = append(slices.Clone(s.Kids), m.Number())
	case choice == 7 && len(s.Kids) > 0:
		s.Kids[m.Intn(len(s.Kids))] = one(m, at-1, at-2, m.Number())
	case choice == 8:
		p.Stmts = slices.Insert(p.Stmts, at, api.Stmt{Op: api.SBlock})
	case choice == 9:
		s.Exprs = s.Exprs[:m.Intn(len(s.Exprs)+1)]
	case choice == 10:
		s.Exprs = append(s.Exprs, m.otherExpr(*p))
	case len(s.Exprs) > 0:
		i := m.Intn(len(s.Exprs))
		if m.Intn(2) == 0 {
			s.Exprs[i] = m.otherExpr(*p)
		} else if len(s.Exprs[i]) > 0 {
			m.spoilNode(*p, &s.Exprs[i][m.Intn(len(s.Exprs[i]))])
		}
	}
}

// otherExpr returns a copy of an expression of a program, or none.
func (m Maker) otherExpr(p api.Program) api.Expr {
	var all []api.Expr
	for _, s := range stmt.Moved(p.Stmts, 0) {
		all = append(all, s.Exprs...)
	}
	return one(m, append(all, nil)...)
}

func (m Maker) spoilNode(p api.Program, n *api.Node) {
	switch m.Intn(6) {
	case 0, 1, 2:
		if n.Name != "" || m.Intn(4) == 0 {
			n.Name = one(m, Names(p)...)
		}
	case 3:
		n.Op = one(m, m.Intn(api.Ops), m.Intn(api.Ops), api.ECall, api.EImage, m.Number())
	case 4:
		n.Kind = one(m, m.Intn(api.Kinds), m.Number())
	case 5:
		n.Bits = uint64(one(m, 0, 33, 65, 4097, 1<<32-1, m.Number()))
	}
}
