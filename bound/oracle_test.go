package bound_test

import (
	"math/big"
	"slices"
	"strconv"
	"strings"

	"halation/affine"
	"halation/api"
	"halation/bound"
	"halation/image"
	"halation/nest"
	"halation/pipe"
	"halation/sched"
	"halation/span"
)

// width is a range in the document's words: coefficients of variables that stay, and two ends.
type width struct {
	kept      map[string]int
	low, high *big.Int
}

func number(n int) *big.Int { return big.NewInt(int64(n)) }

// fn is what the oracle knows of a placed function.
type fn struct {
	site   []bound.Loop
	widths []width
	region bound.Region
	nests  []nest.Nest
	paths  [][]bound.Loop
}

// oracle finds regions in the document's words.
type oracle struct {
	p, placed api.Pipeline
	s         api.Schedule
	b         api.Box
	fns       map[string]*fn
}

// put returns the expression of a node with other expressions in place of variables.
func put(e api.Expr, node int, by map[string]api.Expr) api.Expr {
	n := e[node]
	if other, ok := by[n.Name]; ok && n.Op == api.EVar {
		return slices.Clone(other)
	}
	var out api.Expr
	kids := n.Kids
	n.Kids = nil
	for _, kid := range kids {
		from := len(out)
		for _, m := range put(e, kid, by) {
			moved := make([]int, len(m.Kids))
			for i, k := range m.Kids {
				moved[i] = k + from
			}
			m.Kids = moved
			out = append(out, m)
		}
		n.Kids = append(n.Kids, len(out)-1)
	}
	return append(out, n)
}

// add puts two expressions together.
func add(a, b api.Expr) api.Expr {
	e := api.Expr{{Op: api.EVar, Kind: api.I32, Lanes: 1, Name: "left"}, {Op: api.EVar, Kind: api.I32, Lanes: 1, Name: "right"}, {Op: api.EAdd, Kind: api.I32, Lanes: 1, Kids: []int{0, 1}}}
	return put(e, 2, map[string]api.Expr{"left": a, "right": b})
}

func variable(i int) api.Expr {
	return api.Expr{{Op: api.EVar, Kind: api.I32, Lanes: 1, Name: "s" + strconv.Itoa(i)}}
}

func integer(n int) api.Expr {
	return api.Expr{{Op: api.EConst, Kind: api.I32, Lanes: 1, Bits: uint64(uint32(int32(n)))}}
}

// lasts returns the greatest value of each variable of a path.
func lasts(path []bound.Loop) map[string]int {
	out := map[string]int{}
	for i, l := range path {
		out["s"+strconv.Itoa(i)] = max(0, l.Extent-1)
	}
	return out
}

// flat lets the kept terms go through their spans.
func (w width) flat(site []bound.Loop) width {
	out := width{nil, new(big.Int).Set(w.low), new(big.Int).Set(w.high)}
	last := lasts(site)
	for name, c := range w.kept {
		x := new(big.Int).Mul(number(c), number(last[name]))
		if x.Sign() < 0 {
			out.low.Add(out.low, x)
		} else {
			out.high.Add(out.high, x)
		}
	}
	return out
}

func (w width) within(low, high int) bool {
	return w.low.Cmp(number(low)) >= 0 && w.high.Cmp(number(high)) <= 0
}

func (w width) count() int {
	n := new(big.Int).Sub(w.high, w.low)
	if !n.IsInt64() || n.Sign() < -1 {
		return 1 << 40
	}
	return int(n.Int64()) + 1
}

// hull returns that of several ranges.
func hull(l []width, site []bound.Loop) width {
	same := true
	for _, w := range l {
		for name := range l[0].kept {
			same = same && w.kept[name] == l[0].kept[name]
		}
		same = same && len(w.kept) == len(l[0].kept)
	}
	out := l[0]
	if !same {
		out = out.flat(site)
	}
	for _, w := range l {
		if !same {
			w = w.flat(site)
		}
		if w.low.Cmp(out.low) < 0 {
			out.low = w.low
		}
		if w.high.Cmp(out.high) > 0 {
			out.high = w.high
		}
	}
	return out
}

// spans returns what is known of parameters, and of variables from one number to another one.
func (o *oracle) spans(variables map[string][2]int) []span.Known {
	var out []span.Known
	for _, x := range o.p.Params {
		if x.Kind != api.I64 {
			out = append(out, span.Known{Op: api.EParam, Name: x.Name, Span: span.Span{Low: int(x.Low), High: int(x.High)}})
		}
	}
	for name, e := range variables {
		out = append(out, span.Known{Op: api.EVar, Name: name, Span: span.Span{Low: e[0], High: max(e[0], e[1])}})
	}
	return out
}

// widthOf returns the range of an expression, of whose variables some stay.
func (o *oracle) widthOf(e api.Expr, variables map[string][2]int, stays func(name string) bool) (width, api.Errno) {
	if len(e) > api.MaxNodes {
		return width{}, api.ErrMany
	}
	f, err := affine.Of(e)
	if err != api.OK {
		return width{}, err
	}
	out := width{map[string]int{}, number(f.Const), number(f.Const)}
	for _, t := range f.Terms {
		if t.Atom[0].Op == api.EVar && len(t.Atom) == 1 && stays(t.Atom[0].Name) {
			out.kept[t.Atom[0].Name] = t.Coeff
			continue
		}
		fact, err := span.Of(t.Atom, o.spans(variables))
		if err != api.OK || !fact.Is {
			panic("span")
		}
		a, b := new(big.Int).Mul(number(t.Coeff), number(fact.Span.Low)), new(big.Int).Mul(number(t.Coeff), number(fact.Span.High))
		if a.Cmp(b) > 0 {
			a, b = b, a
		}
		out.low.Add(out.low, a)
		out.high.Add(out.high, b)
	}
	return out, api.OK
}

// expressions returns the expressions of a stage: Left, Value, Where.
func expressions(f api.Func, stage int) []api.Expr {
	if stage == 0 {
		return []api.Expr{f.Value}
	}
	u := f.Updates[stage-1]
	return append(append(slices.Clone(u.Left), u.Value), u.Where)
}

// variables returns what the variables of a stage are.
func (o *oracle) variables(f api.Func, stage int) map[string]api.Expr {
	x := o.fns[f.Name]
	path, n := x.paths[stage], x.nests[stage]
	names := map[string]api.Expr{}
	for i, l := range n.Loops {
		names[l.Name] = variable(len(path) - 1 - i)
	}
	out := map[string]api.Expr{}
	for i, a := range n.Axes {
		var low api.Expr
		if a.Dim >= 0 {
			low, _ = affine.Expr(x.region.Dims[a.Dim].Min)
		} else {
			for _, axis := range f.Updates[stage-1].Domain {
				if axis.Name == a.Name {
					low = integer(axis.Min)
				}
			}
		}
		out[a.Name] = add(low, put(n.Offsets[i], len(n.Offsets[i])-1, names))
	}
	return out
}

// reads returns the ranges at which something is read by functions, dimension by dimension.
func (o *oracle) reads(functions []api.Func, op int, name string, site []bound.Loop, openToo bool) ([][]width, api.Errno) {
	var out [][]width
	for _, f := range functions {
		for stage := range len(f.Updates) + 1 {
			by := o.variables(f, stage)
			path := o.fns[f.Name].paths[stage]
			ends := map[string][2]int{}
			for name, last := range lasts(path) {
				ends[name] = [2]int{0, last}
			}
			own := lasts(path[:min(len(site), len(path))])
			for _, e := range expressions(f, stage) {
				for _, n := range e {
					if n.Op != op || n.Name != name {
						continue
					}
					for dim, kid := range n.Kids {
						w, err := o.widthOf(put(e, kid, by), ends, func(name string) bool { _, ok := own[name]; return ok })
						if err != api.OK {
							return nil, err
						}
						if openToo && !w.within(-(1<<40), 1<<40) {
							return nil, api.ErrOpen
						}
						for len(out) <= dim {
							out = append(out, nil)
						}
						out[dim] = append(out[dim], w)
					}
				}
			}
		}
	}
	return out, api.OK
}

// site returns the site of a function.
func (o *oracle) site(at int) ([]bound.Loop, api.Errno) {
	f := o.placed.Funcs[at]
	placing, _ := sched.Plan(o.s, f.Name)
	if at == len(o.placed.Funcs)-1 || placing.Compute.Kind == sched.AtRoot {
		return nil, api.OK
	}
	g := o.fns[placing.Compute.Func]
	if g == nil {
		return nil, api.ErrLevel
	}
	var site []bound.Loop
	for stage, path := range g.paths {
		for i, l := range path {
			if site == nil && l.Func == placing.Compute.Func && l.Stage == stage && l.Name == placing.Compute.Loop {
				site = path[:i+1]
			}
		}
	}
	if site == nil {
		return nil, api.ErrLevel
	}
	for _, other := range o.placed.Funcs[at+1:] {
		for stage := range len(other.Updates) + 1 {
			calls := false
			for _, e := range expressions(other, stage) {
				for _, n := range e {
					calls = calls || n.Op == api.ECall && n.Name == f.Name
				}
			}
			path := o.fns[other.Name].paths[stage]
			if calls && (len(path) < len(site) || !slices.Equal(path[:len(site)], site)) {
				return nil, api.ErrLevel
			}
		}
	}
	return site, api.OK
}

// limited lets a range be that of a limit.
func limited(placing sched.Placing, arg string, w *width, site []bound.Loop) api.Errno {
	for _, l := range placing.Limits {
		if l.Var == arg {
			if !w.flat(site).within(l.Low, l.Low+l.Count-1) {
				return api.ErrBounds
			}
			*w = width{nil, number(l.Low), number(l.Low + l.Count - 1)}
		}
	}
	return api.OK
}

// rounds widens the dimensions that are not pure in an update.
func (o *oracle) rounds(at int, widths []width, site []bound.Loop) api.Errno {
	f := o.placed.Funcs[at]
	for round := 1; ; round++ {
		changed := false
		for dim := range widths {
			impure := false
			for k := range f.Updates {
				pure, _ := pipe.Pure(o.placed, at, k+1)
				impure = impure || !pure[dim]
			}
			if !impure {
				continue
			}
			all := []width{widths[dim].flat(site)}
			for _, calls := range []bool{false, true} {
				for k, u := range f.Updates {
					ends := map[string][2]int{}
					pure, _ := pipe.Pure(o.placed, at, k+1)
					for i, arg := range f.Args {
						if pure[i] {
							w := widths[i].flat(site)
							cut := func(n *big.Int) int {
								if n.Cmp(number(1<<40)) > 0 {
									return 1 << 40
								} else if n.Cmp(number(-(1 << 40))) < 0 {
									return -(1 << 40)
								}
								return int(n.Int64())
							}
							ends[arg] = [2]int{cut(w.low), cut(w.high)}
						}
					}
					for _, a := range u.Domain {
						ends[a.Name] = [2]int{a.Min, a.Min + a.Extent - 1}
					}
					var coordinates []api.Expr
					if !calls {
						coordinates = append(coordinates, u.Left[dim])
					} else {
						for _, e := range expressions(f, k+1) {
							for _, n := range e {
								if n.Op == api.ECall && n.Name == f.Name {
									coordinates = append(coordinates, put(e, n.Kids[dim], nil))
								}
							}
						}
					}
					for _, e := range coordinates {
						w, err := o.widthOf(e, ends, func(string) bool { return false })
						if err != api.OK {
							return err
						}
						all = append(all, w)
					}
				}
			}
			w := hull(all, nil)
			changed = changed || w.low.Cmp(all[0].low) != 0 || w.high.Cmp(all[0].high) != 0
			widths[dim] = w
		}
		if !changed {
			return api.OK
		}
		if round == 4 {
			return api.ErrOpen
		}
	}
}

// extents returns a box from 0 on, and whether it has not too many points.
func extents(l []int) (api.Box, bool) {
	var out api.Box
	points := 1
	for _, n := range l {
		out = append(out, api.Range{Extent: n})
		points *= n
	}
	return out, points <= api.MaxPoints
}

// function finds the region of a function.
func (o *oracle) function(at int) api.Errno {
	f := o.placed.Funcs[at]
	placing, _ := sched.Plan(o.s, f.Name)
	site, err := o.site(at)
	if err != api.OK {
		return err
	}
	var widths []width
	if at == len(o.placed.Funcs)-1 {
		for _, r := range o.b {
			widths = append(widths, width{nil, number(r.Min), number(r.Min + r.Extent - 1)})
		}
	} else {
		calls, err := o.reads(o.placed.Funcs[at+1:], api.ECall, f.Name, site, false)
		if err != api.OK {
			return err
		}
		for _, l := range calls {
			widths = append(widths, hull(l, site))
		}
	}
	for i := range widths {
		if err := limited(placing, f.Args[i], &widths[i], site); err != api.OK {
			return err
		}
	}
	if err := o.rounds(at, widths, site); err != api.OK {
		return err
	}
	for _, w := range widths {
		if !w.within(-(1 << 40), 1<<40) {
			return api.ErrOpen
		}
	}
	var asked []int
	for i := range widths {
		if err := limited(placing, f.Args[i], &widths[i], site); err != api.OK {
			return err
		}
		if !widths[i].flat(site).within(-api.MaxCoord, api.MaxCoord) || widths[i].count() > api.MaxExtent {
			return api.ErrLarge
		}
		asked = append(asked, widths[i].count())
	}
	box, ok := extents(asked)
	if !ok {
		return api.ErrLarge
	}
	x := &fn{site: site, widths: widths, region: bound.Region{Func: f.Name, Site: site}}
	for stage := range len(f.Updates) + 1 {
		n, _, err := nest.Loops(o.p, o.s, nest.Stage{Func: f.Name, Number: stage, Box: box})
		if err != api.OK {
			return err
		}
		path := slices.Clone(site)
		for i := len(n.Loops) - 1; i >= 0; i-- {
			path = append(path, bound.Loop{Func: f.Name, Stage: stage, Name: n.Loops[i].Name, Extent: n.Loops[i].Extent})
		}
		x.nests, x.paths = append(x.nests, n), append(x.paths, path)
	}
	reach, _ := nest.Reach(o.p, o.s, nest.Stage{Func: f.Name, Box: box})
	for i, w := range widths {
		first := w
		first.high = w.low
		if reach[i] > api.MaxExtent || !first.flat(site).within(-1<<60, api.MaxCoord+1-reach[i]) {
			return api.ErrLarge
		}
		d := bound.Dim{Min: affine.Form{Const: int(w.low.Int64())}, Asked: asked[i], Extent: reach[i]}
		for name, c := range w.kept {
			d.Min.Terms = append(d.Min.Terms, affine.Term{Coeff: c, Atom: api.Expr{{Op: api.EVar, Kind: api.I32, Lanes: 1, Name: name}}})
		}
		slices.SortFunc(d.Min.Terms, func(a, b affine.Term) int { return strings.Compare(a.Atom[0].Name, b.Atom[0].Name) })
		x.region.Dims = append(x.region.Dims, d)
	}
	if _, ok := extents(reach); !ok {
		return api.ErrLarge
	}
	o.fns[f.Name] = x
	return api.OK
}

// infer returns an oracle that has found all regions, or the first error.
func infer(p api.Pipeline, s api.Schedule, b api.Box) (*oracle, api.Errno) {
	placed, err := bound.Placed(p, s)
	if err != api.OK {
		return nil, err
	}
	if err := image.CheckBox(b); err != api.OK {
		return nil, err
	}
	o := &oracle{p, placed, s, b, map[string]*fn{}}
	if len(b) != len(placed.Funcs[len(placed.Funcs)-1].Args) {
		return nil, api.ErrDims
	}
	for at := len(placed.Funcs) - 1; at >= 0; at-- {
		if err := o.function(at); err != api.OK {
			return nil, err
		}
	}
	return o, api.OK
}

// whole returns the hull of a region's boxes, by going through the values of its site one loop after the other.
func whole(r bound.Region) api.Box {
	var out api.Box
	for _, d := range r.Dims {
		low, high := d.Min.Const, d.Min.Const
		for _, t := range d.Min.Terms {
			last := lasts(r.Site)[t.Atom[0].Name]
			low, high = low+min(0, t.Coeff*last), high+max(0, t.Coeff*last)
		}
		out = append(out, api.Range{Min: low, Extent: high - low + d.Extent})
	}
	return out
}

// inputs returns the boxes of the inputs that are read.
func (o *oracle) inputs() ([]bound.Named, api.Errno) {
	var out []bound.Named
	for _, in := range o.p.Inputs {
		ranges, err := o.reads(o.placed.Funcs, api.EImage, in.Name, nil, true)
		if err != api.OK {
			return nil, err
		}
		if len(ranges) == 0 {
			continue
		}
		x := bound.Named{Name: in.Name}
		points := 1
		for _, l := range ranges {
			w := hull(l, nil)
			if !w.within(-api.MaxCoord, api.MaxCoord) || w.count() > api.MaxExtent {
				return nil, api.ErrLarge
			}
			x.Box = append(x.Box, api.Range{Min: int(w.low.Int64()), Extent: w.count()})
			points *= w.count()
		}
		if points > api.MaxPoints {
			return nil, api.ErrLarge
		}
		out = append(out, x)
	}
	return out, api.OK
}

// text returns a text of a result, which is the same for nil and empty lists.
func text(x any) string {
	switch x := x.(type) {
	case bound.Region:
		out := x.Func + text(x.Site)
		for _, d := range x.Dims {
			e, _ := affine.Expr(d.Min)
			out += " [" + text(e) + " " + strconv.Itoa(d.Asked) + " " + strconv.Itoa(d.Extent) + "]"
		}
		return out
	case []bound.Loop:
		out := ""
		for _, l := range x {
			out += " " + l.Func + "." + strconv.Itoa(l.Stage) + "." + l.Name + "<" + strconv.Itoa(l.Extent)
		}
		return out
	case bound.Named:
		out := x.Name
		for _, r := range x.Box {
			out += " " + strconv.Itoa(r.Min) + "+" + strconv.Itoa(r.Extent)
		}
		return out
	case api.Expr:
		out := ""
		for _, n := range x {
			out += " " + strconv.Itoa(n.Op) + "." + strconv.Itoa(n.Kind) + n.Name + strconv.Itoa(int(n.Bits))
			for _, k := range n.Kids {
				out += "/" + strconv.Itoa(k)
			}
		}
		return out
	}
	panic("text")
}

func texts[T any](l []T) string {
	out := ""
	for _, x := range l {
		out += text(any(x)) + "\n"
	}
	return out
}
