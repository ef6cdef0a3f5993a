package mean_test

import (
	"fmt"
	"maps"
	"slices"

	"halation/api"
	"halation/expr"
	"halation/mean"
	"halation/num"
)

// oracle computes values from the document's definitions, by recursion over the nodes, with texts as keys.
type oracle struct {
	p      api.Pipeline
	g      api.Given
	values map[string]api.Value
	rows   map[string]map[string]api.Value
	reads  map[string]mean.Read
	work   int
}

func newOracle(p api.Pipeline, g api.Given) *oracle {
	return &oracle{p, g, map[string]api.Value{}, map[string]map[string]api.Value{}, map[string]mean.Read{}, 0}
}

type failure api.Errno

func (o *oracle) add(n int) {
	if o.work += n; o.work > 200000 {
		panic(failure(api.ErrLimit))
	}
}

// at returns the value of a function at a point after one of its stages.
func (o *oracle) at(f, stage int, p []int) api.Value {
	if stage > 0 {
		if v, ok := o.row(f, stage, p)[fmt.Sprint(p)]; ok {
			return v
		}
		return o.at(f, stage-1, p)
	}
	key := fmt.Sprint(f, p)
	if v, ok := o.values[key]; ok {
		return v
	}
	o.add(1)
	env := &environment{oracle: o, f: f, e: o.p.Funcs[f].Value, vars: map[string]int{}}
	for i, arg := range o.p.Funcs[f].Args {
		env.vars[arg] = p[i]
	}
	o.values[key] = env.node(len(env.e) - 1)
	return o.values[key]
}

// row returns what an update stores for the pure coordinates of a point.
func (o *oracle) row(f, stage int, p []int) map[string]api.Value {
	fn, u := o.p.Funcs[f], o.p.Funcs[f].Updates[stage-1]
	vars, key := map[string]int{}, fmt.Sprint(f, stage)
	isPure := make([]bool, len(p))
	for i, arg := range fn.Args {
		if isPure[i] = expr.Same(u.Left[i], api.Expr{{Op: api.EVar, Kind: api.I32, Lanes: 1, Name: arg}}); isPure[i] {
			vars[arg] = p[i]
			key += fmt.Sprint(" ", arg, p[i])
		}
	}
	if row, ok := o.rows[key]; ok {
		return row
	}
	points := 1
	for _, a := range u.Domain {
		points *= a.Extent
	}
	o.add(1 + points)
	row := map[string]api.Value{}
	env := &environment{oracle: o, f: f, vars: vars, self: func(p []int) api.Value {
		if v, ok := row[fmt.Sprint(p)]; ok {
			return v
		}
		return o.at(f, stage-1, p)
	}}
	env.run(u.Domain, func() {
		if len(u.Where) > 0 && env.value(u.Where).Bits == 0 {
			return
		}
		var at []int
		for i, e := range u.Left {
			if isPure[i] {
				at = append(at, p[i])
				continue
			}
			at = append(at, coordinates(env.value(e))...)
		}
		row[fmt.Sprint(at)] = env.value(u.Value)
	})
	o.rows[key] = row
	return row
}

// coordinates returns the numbers of values, or fails.
func coordinates(l ...api.Value) []int {
	var out []int
	for _, v := range l {
		n, _ := num.Int(v)
		if n < -1<<20 || n > 1<<20 {
			panic(failure(api.ErrLarge))
		}
		out = append(out, int(n))
	}
	return out
}

// environment is an expression with its variables.
type environment struct {
	*oracle
	f    int
	e    api.Expr
	vars map[string]int
	self func([]int) api.Value
}

func (env environment) value(e api.Expr) api.Value {
	env.e = e
	return env.node(len(e) - 1)
}

// run goes through a domain, its first axis fastest.
func (env environment) run(axes []api.Axis, do func()) {
	if len(axes) == 0 {
		do()
		return
	}
	last := axes[len(axes)-1]
	for i := range last.Extent {
		env.vars[last.Name] = last.Min + i
		env.run(axes[:len(axes)-1], do)
	}
}

func (env environment) node(i int) api.Value {
	n := env.e[i]
	var kids []api.Value
	for _, kid := range n.Kids {
		kids = append(kids, env.node(kid))
	}
	switch n.Op {
	case api.EVar:
		v, _ := num.Wrap(api.I32, int64(env.vars[n.Name]))
		return v
	case api.EParam:
		return env.g.Params[slices.IndexFunc(env.p.Params, func(x api.Param) bool { return x.Name == n.Name })]
	case api.EImage:
		p := coordinates(kids...)
		im := env.g.Images[slices.IndexFunc(env.p.Inputs, func(x api.Input) bool { return x.Name == n.Name })]
		v := api.Value{Kind: im.Kind, Bits: im.Data[element(im, p)]}
		env.reads[fmt.Sprint(n.Name, p)] = mean.Read{Name: n.Name, Point: p}
		return v
	case api.ECall:
		p := coordinates(kids...)
		called := slices.IndexFunc(env.p.Funcs, func(x api.Func) bool { return x.Name == n.Name })
		if called == env.f {
			return env.self(p)
		}
		env.reads[fmt.Sprint(n.Name, p)] = mean.Read{Name: n.Name, Point: p}
		return env.at(called, len(env.p.Funcs[called].Updates), p)
	}
	e := api.Expr{}
	for _, v := range kids {
		e = append(e, api.Node{Op: api.EConst, Kind: v.Kind, Lanes: 1, Bits: v.Bits})
	}
	n.Kids = []int{0, 1, 2}[:len(kids)]
	v, err := expr.Eval(append(e, n), nil)
	if err != api.OK {
		panic(err)
	}
	return v[0]
}

// element returns the index of a point's element, or fails.
func element(im api.Image, p []int) int {
	at := 0
	for i, r := range im.Box {
		if p[i] < r.Min || p[i] >= r.Min+r.Extent {
			panic(failure(api.ErrBounds))
		}
		at += (p[i] - r.Min) * im.Strides[i]
	}
	return at
}

// caught returns the error with which something fails.
func caught(do func()) (err api.Errno) {
	defer func() {
		if r := recover(); r != nil {
			err = api.Errno(r.(failure))
		}
	}()
	do()
	return api.OK
}

func (o *oracle) sorted() []mean.Read {
	return slices.SortedFunc(maps.Values(o.reads), func(r, s mean.Read) int {
		if r.Name != s.Name {
			return map[bool]int{true: -1, false: 1}[r.Name < s.Name]
		}
		a, b := slices.Clone(r.Point), slices.Clone(s.Point)
		slices.Reverse(a)
		slices.Reverse(b)
		return slices.Compare(a, b)
	})
}
