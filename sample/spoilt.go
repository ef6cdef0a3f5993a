package sample

import (
	"math"
	"slices"

	"halation/api"
)

// Number returns a number that is often out of its range.
func (m Maker) Number() int {
	return one(m, -1, 0, 1, 2, 3, m.Intn(70), math.MaxInt, math.MinInt, api.MaxCoord+1, -m.Intn(9))
}

// Spoilt returns a pipeline, a schedule and a box of which something may be wrong.
func (m Maker) Spoilt(p api.Pipeline, s api.Schedule, b api.Box) (api.Pipeline, api.Schedule, api.Box) {
	if m.Intn(2) == 0 {
		p = m.spoiltPipeline(p)
	}
	if len(s) > 0 && m.Intn(2) == 0 {
		s = slices.Clone(s)
		at := m.Intn(len(s))
		s[at] = m.spoiltDirective(s[at])
	}
	if m.Intn(2) == 0 {
		b = slices.Clone(b)
		b[m.Intn(len(b))] = api.Range{Min: m.Number(), Extent: m.Number()}
		b = b[:len(b)-m.Intn(2)]
	}
	return p, s, b
}

func (m Maker) spoiltPipeline(p api.Pipeline) api.Pipeline {
	p.Funcs = slices.Clone(p.Funcs)
	f := &p.Funcs[m.Intn(len(p.Funcs))]
	switch m.Intn(8) {
	case 0:
		f.Args = f.Args[:m.Intn(len(f.Args)+1)]
	case 1:
		f.Kind = m.Number()
	case 2:
		f.Value = slices.Clone(f.Value)
		f.Value[m.Intn(len(f.Value))] = api.Node{Op: m.Number(), Kind: m.Number(), Lanes: m.Number(), Kids: []int{m.Number(), m.Number()}}
	case 3:
		f.Updates = append(slices.Clone(f.Updates), api.Update{Left: []api.Expr{nil}, Domain: []api.Axis{{Name: "r", Range: api.Range{Extent: m.Number()}}}})
	case 4:
		p.Funcs = p.Funcs[:m.Intn(len(p.Funcs))]
	case 5:
		p.Inputs = nil
	case 6:
		p.Params = append(slices.Clone(p.Params), api.Param{Name: "w", Kind: m.Number(), Low: int64(m.Number()), High: int64(m.Number())})
	case 7:
		p.Name = ""
	}
	return p
}

func (m Maker) spoiltDirective(d api.Directive) api.Directive {
	switch m.Intn(7) {
	case 0:
		d.Op = m.Number()
	case 1:
		d.Vars = d.Vars[:m.Intn(len(d.Vars)+1)]
	case 2:
		d.Factor = m.Number()
	case 3:
		d.Tail = m.Number()
	case 4:
		d.Stage = m.Number()
	case 5:
		d.Func = one(m, "", "a", "nowhere", "out")
	case 6:
		d.At = one(m, "", "nowhere", "out")
	}
	return d
}
