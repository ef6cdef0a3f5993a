package pipe_test

import (
	"fmt"

	"halation/api"
	"halation/expr"
	"halation/num"
	"halation/pipe"
)

// meaning computes values of functions from their definitions, for inputs that have a value at each point.
type meaning struct {
	p      api.Pipeline
	params []api.Value
	rows   map[string]map[string]api.Value // what an update stores for some pure coordinates
	steps  int
}

type tooMany struct{}

// inputAt is the value of an input at a point: any numbers that depend on the point.
func inputAt(in api.Input, p []int64) api.Value {
	n := int64(in.Kind)
	for _, c := range p {
		n = n*31 + c*c*7 + c*3
	}
	v, _ := num.Cast(in.Kind, api.Value{Kind: api.I16, Bits: uint64(uint16(n % 53))})
	return v
}

// at returns the value of a function at a point after one of its stages.
func (m *meaning) at(f, stage int, p []int64) api.Value {
	if m.steps++; m.steps > 3000 {
		panic(tooMany{})
	}
	fn := m.p.Funcs[f]
	if stage == 0 {
		vars := map[string]int64{}
		for i, arg := range fn.Args {
			vars[arg] = p[i]
		}
		return m.eval(f, fn.Value, vars, nil)
	}
	if v, ok := m.row(f, stage, p)[fmt.Sprint(p)]; ok {
		return v
	}
	return m.at(f, stage-1, p)
}

// row returns what an update stores for the pure coordinates of a point.
func (m *meaning) row(f, stage int, p []int64) map[string]api.Value {
	fn, u := m.p.Funcs[f], m.p.Funcs[f].Updates[stage-1]
	vars, key := map[string]int64{}, fmt.Sprint(f, stage)
	for i, arg := range fn.Args {
		if len(u.Left[i]) == 1 && u.Left[i][0].Op == api.EVar && u.Left[i][0].Name == arg {
			vars[arg] = p[i]
			key += fmt.Sprint(" ", arg, p[i])
		}
	}
	if row, ok := m.rows[key]; ok {
		return row
	}
	row := map[string]api.Value{}
	self := func(p []int64) api.Value {
		if v, ok := row[fmt.Sprint(p)]; ok {
			return v
		}
		return m.at(f, stage-1, p)
	}
	m.run(u, u.Domain, vars, func() {
		if len(u.Where) > 0 && m.eval(f, u.Where, vars, self).Bits == 0 {
			return
		}
		var at []int64
		for _, e := range u.Left {
			n, _ := num.Int(m.eval(f, e, vars, self))
			at = append(at, n)
		}
		row[fmt.Sprint(at)] = m.eval(f, u.Value, vars, self)
	})
	m.rows[key] = row
	return row
}

// run goes through a domain, its first axis fastest.
func (m *meaning) run(u api.Update, axes []api.Axis, vars map[string]int64, do func()) {
	if len(axes) == 0 {
		do()
		return
	}
	last := axes[len(axes)-1]
	for i := range last.Extent {
		vars[last.Name] = int64(last.Min + i)
		m.run(u, axes[:len(axes)-1], vars, do)
	}
}

// eval computes an expression of a function node by node.
func (m *meaning) eval(f int, e api.Expr, vars map[string]int64, self func([]int64) api.Value) api.Value {
	values := make([]api.Value, len(e))
	for i, n := range e {
		var numbers []int64
		kids := api.Expr{}
		for _, kid := range n.Kids {
			c, _ := num.Int(values[kid])
			numbers = append(numbers, c)
			kids = append(kids, api.Node{Op: api.EConst, Kind: values[kid].Kind, Lanes: 1, Bits: values[kid].Bits})
		}
		switch n.Op {
		case api.EVar:
			values[i], _ = num.Wrap(api.I32, vars[n.Name])
		case api.EParam:
			_, at, _ := pipe.Find(m.p, n.Name)
			values[i] = m.params[at]
		case api.EImage:
			_, at, _ := pipe.Find(m.p, n.Name)
			values[i] = inputAt(m.p.Inputs[at], numbers)
		case api.ECall:
			values[i] = m.call(f, n.Name, numbers, self)
		default:
			n.Kids = []int{0, 1, 2}[:len(kids)]
			v, err := expr.Eval(append(kids, n), nil)
			if err != api.OK {
				panic(err)
			}
			values[i] = v[0]
		}
	}
	return values[len(e)-1]
}

func (m *meaning) call(f int, name string, p []int64, self func([]int64) api.Value) api.Value {
	_, called, _ := pipe.Find(m.p, name)
	if called == f {
		return self(p)
	}
	return m.at(called, len(m.p.Funcs[called].Updates), p)
}

// output returns some values of the function with a name, or nil if they take too long.
func output(p api.Pipeline, name string, params []api.Value) (out []api.Value) {
	m := &meaning{p: p, params: params, rows: map[string]map[string]api.Value{}}
	defer func() {
		if r := recover(); r != nil && r != any(tooMany{}) {
			panic(r)
		} else if r != nil {
			out = nil
		}
	}()
	_, f, _ := pipe.Find(p, name)
	for x := range int64(3) {
		out = append(out, m.at(f, len(p.Funcs[f].Updates), []int64{x - 1, 2 - x, x * x}[:len(p.Funcs[f].Args)]))
	}
	return out
}
