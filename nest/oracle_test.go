package nest_test

import (
	"fmt"
	"math"
	"math/big"
	"slices"
	"strings"

	"halation/api"
	"halation/nest"
)

// tree is an expression of the loops' variables: a variable, a number, or an operation.
type tree struct {
	op     int
	name   string
	number int
	kids   []tree
}

func variable(name string) tree { return tree{op: api.EVar, name: name} }
func number(n int) tree         { return tree{op: api.EConst, number: n} }
func two(op int, a, b tree) tree {
	return tree{op: op, kids: []tree{a, b}}
}

// put returns a tree with another one in place of a variable.
func (t tree) put(name string, by tree) tree {
	if t.op == api.EVar && t.name == name {
		return by
	}
	var kids []tree
	for _, kid := range t.kids {
		kids = append(kids, kid.put(name, by))
	}
	t.kids = kids
	return t
}

func (t tree) size() int {
	size := 1
	for _, kid := range t.kids {
		size += kid.size()
	}
	return size
}

// expr returns the nodes of a tree in post-order behind others.
func (t tree) expr(before api.Expr) api.Expr {
	n := api.Node{Op: t.op, Kind: api.I32, Lanes: 1, Name: t.name}
	if t.op == api.ELt {
		n.Kind = api.Bool
	}
	if t.op == api.EConst {
		n.Bits = uint64(uint32(int32(t.number)))
	}
	for _, kid := range t.kids {
		before = kid.expr(before)
		n.Kids = append(n.Kids, len(before)-1)
	}
	return append(before, n)
}

// value computes a tree as chapter 2 does.
func (t tree) value(at map[string]int) int32 {
	switch t.op {
	case api.EVar:
		return int32(at[t.name])
	case api.EConst:
		return int32(t.number)
	}
	a, b := t.kids[0].value(at), t.kids[1].value(at)
	quotient, rest := new(big.Int), new(big.Int)
	if b != 0 {
		quotient.DivMod(big.NewInt(int64(a)), big.NewInt(int64(b)), rest)
	}
	switch t.op {
	case api.EAdd:
		return a + b
	case api.EMul:
		return a * b
	case api.EMin:
		return min(a, b)
	case api.EDiv:
		return int32(quotient.Int64())
	case api.EMod:
		return int32(rest.Int64())
	}
	if a < b { // ELt
		return 1
	}
	return 0
}

// oracle is a nest, made in the document's words.
type oracle struct {
	update  bool
	axes    []nest.Axis
	loops   []nest.Loop
	offsets []tree
	guards  []tree
	back    []func(greatest map[string]*big.Int)
	isFused bool
}

func newOracle(p api.Pipeline, x nest.Stage) *oracle {
	f := p.Funcs[slices.IndexFunc(p.Funcs, func(f api.Func) bool { return f.Name == x.Func })]
	o := &oracle{update: x.Number > 0}
	var pure []nest.Loop
	for dim, name := range f.Args {
		if o.update {
			left := f.Updates[x.Number-1].Left[dim]
			if len(left) != 1 || left[0].Op != api.EVar || left[0].Name != name {
				continue
			}
		}
		o.axes = append(o.axes, nest.Axis{Name: name, Dim: dim, Extent: x.Box[dim].Extent})
		pure = append(pure, nest.Loop{Name: name, Extent: x.Box[dim].Extent})
	}
	if o.update {
		for _, a := range f.Updates[x.Number-1].Domain {
			o.axes = append(o.axes, nest.Axis{Name: a.Name, Dim: -1, Extent: a.Extent})
			o.loops = append(o.loops, nest.Loop{Name: a.Name, Extent: a.Extent, Domain: true})
		}
	}
	o.loops = append(o.loops, pure...)
	for _, a := range o.axes {
		o.offsets = append(o.offsets, variable(a.Name))
	}
	return o
}

func (o *oracle) find(name string) int {
	return slices.IndexFunc(o.loops, func(l nest.Loop) bool { return l.Name == name })
}

func (o *oracle) becomes(name string, by tree) {
	for i := range o.offsets {
		o.offsets[i] = o.offsets[i].put(name, by)
	}
	for i := range o.guards {
		o.guards[i] = o.guards[i].put(name, by)
	}
}

func (o *oracle) apply(d api.Directive) api.Errno {
	err := map[int]func(api.Directive) api.Errno{api.Split: o.split, api.Fuse: o.fuse, api.Reorder: o.reorder, api.Rename: o.rename}[d.Op]
	if err == nil {
		err = o.mark
	}
	if e := err(d); e != api.OK {
		return e
	}
	if len(o.loops) > 24 {
		return api.ErrMany
	}
	for _, t := range append(slices.Clone(o.offsets), o.guards...) {
		if t.size() > 256 {
			return api.ErrMany
		}
	}
	return api.OK
}

func (o *oracle) split(d api.Directive) api.Errno {
	at, f := o.find(d.Vars[0]), d.Factor
	if at < 0 {
		return api.ErrUnknown
	}
	l := o.loops[at]
	e := l.Extent
	switch {
	case l.Kind != api.Serial:
		return api.ErrConflict
	case o.find(d.Vars[1]) >= 0 || o.find(d.Vars[2]) >= 0:
		return api.ErrTwice
	case o.update && (d.Tail == api.RoundUp || d.Tail == api.ShiftInward):
		return api.ErrTail
	case d.Tail == api.Exact && e%f != 0, d.Tail == api.ShiftInward && e < f:
		return api.ErrTail
	}
	outer := nest.Loop{Name: d.Vars[1], Extent: int(math.Ceil(float64(e) / float64(f))), Domain: l.Domain}
	inner := nest.Loop{Name: d.Vars[2], Extent: f, Domain: l.Domain}
	o.loops = append(append(slices.Clone(o.loops[:at]), inner, outer), o.loops[at+1:]...)
	start := two(api.EMul, variable(outer.Name), number(f))
	if d.Tail == api.ShiftInward {
		start = two(api.EMin, start, number(e-f))
	}
	by := two(api.EAdd, start, variable(inner.Name))
	o.becomes(l.Name, by)
	guarded := d.Tail == api.Guard && e%f != 0
	if guarded {
		o.guards = append(o.guards, two(api.ELt, by, number(e)))
	}
	o.back = append(o.back, func(greatest map[string]*big.Int) {
		v := new(big.Int).Mul(greatest[outer.Name], big.NewInt(int64(f)))
		if last := big.NewInt(int64(e - f)); d.Tail == api.ShiftInward && v.Cmp(last) > 0 {
			v = last
		}
		v.Add(v, greatest[inner.Name])
		if last := big.NewInt(int64(e - 1)); guarded && v.Cmp(last) > 0 {
			v = last
		}
		delete(greatest, outer.Name)
		delete(greatest, inner.Name)
		greatest[l.Name] = v
	})
	return api.OK
}

func (o *oracle) fuse(d api.Directive) api.Errno {
	at, at2 := o.find(d.Vars[0]), o.find(d.Vars[1])
	if at < 0 || at2 < 0 {
		return api.ErrUnknown
	}
	a, b := o.loops[at], o.loops[at2]
	switch {
	case a.Kind != api.Serial || b.Kind != api.Serial:
		return api.ErrConflict
	case at2 != at+1:
		return api.ErrOrder
	case a.Domain != b.Domain:
		return api.ErrConflict
	case o.find(d.Vars[2]) >= 0:
		return api.ErrTwice
	case a.Extent*b.Extent > 4096:
		return api.ErrLarge
	}
	t := nest.Loop{Name: d.Vars[2], Extent: a.Extent * b.Extent, Domain: a.Domain}
	o.loops = append(append(slices.Clone(o.loops[:at]), t), o.loops[at+2:]...)
	o.becomes(a.Name, two(api.EMod, variable(t.Name), number(a.Extent)))
	o.becomes(b.Name, two(api.EDiv, variable(t.Name), number(a.Extent)))
	o.isFused = true
	o.back = append(o.back, func(greatest map[string]*big.Int) {
		all := greatest[t.Name]
		delete(greatest, t.Name)
		greatest[a.Name] = big.NewInt(int64(a.Extent - 1))
		greatest[b.Name] = new(big.Int).Div(all, big.NewInt(int64(a.Extent)))
	})
	return api.OK
}

func (o *oracle) reorder(d api.Directive) api.Errno {
	var places []int
	var loops []nest.Loop
	for _, name := range d.Vars {
		at := o.find(name)
		if at < 0 {
			return api.ErrUnknown
		}
		places = append(places, at)
		loops = append(loops, o.loops[at])
	}
	slices.Sort(places)
	for i, at := range places {
		o.loops[at] = loops[i]
	}
	return api.OK
}

func (o *oracle) rename(d api.Directive) api.Errno {
	at := o.find(d.Vars[0])
	switch {
	case at < 0:
		return api.ErrUnknown
	case o.find(d.Vars[1]) >= 0:
		return api.ErrTwice
	}
	o.loops[at].Name = d.Vars[1]
	o.becomes(d.Vars[0], variable(d.Vars[1]))
	o.back = append(o.back, func(greatest map[string]*big.Int) {
		n := greatest[d.Vars[1]]
		delete(greatest, d.Vars[1])
		greatest[d.Vars[0]] = n
	})
	return api.OK
}

func (o *oracle) mark(d api.Directive) api.Errno {
	at := o.find(d.Vars[0])
	switch {
	case at < 0:
		return api.ErrUnknown
	case o.loops[at].Kind != api.Serial:
		return api.ErrConflict
	case d.Op == api.Vectorize && o.loops[at].Extent > 32:
		return api.ErrVector
	}
	o.loops[at].Kind = map[int]int{api.Unroll: api.Unrolled, api.Vectorize: api.Vector, api.Parallel: api.Tasks, api.Blocks: api.Grid, api.Threads: api.Lane}[d.Op]
	return api.OK
}

// made returns the oracle of a stage, or the index of the directive that is refused.
func made(p api.Pipeline, s api.Schedule, x nest.Stage) (*oracle, int, api.Errno) {
	o := newOracle(p, x)
	for i, d := range s {
		if d.Func != x.Func || d.Stage != x.Number || d.Op > api.Threads {
			continue
		}
		if err := o.apply(d); err != api.OK {
			return nil, i, err
		}
	}
	return o, 0, api.OK
}

func (o *oracle) nest() nest.Nest {
	out := nest.Nest{Loops: o.loops, Axes: o.axes}
	for _, t := range o.offsets {
		out.Offsets = append(out.Offsets, t.expr(nil))
	}
	for _, t := range o.guards {
		out.Guards = append(out.Guards, t.expr(nil))
	}
	return out
}

// combinations returns how many there are, or -1 for more than 4096.
func (o *oracle) combinations() int {
	count := 1
	for _, l := range o.loops {
		if l.Extent == 0 {
			return 0
		}
	}
	for _, l := range o.loops {
		if count *= l.Extent; count > 4096 {
			return -1
		}
	}
	return count
}

// meets returns the offsets for values, and whether all guards hold.
func (o *oracle) meets(values []int) ([]int, bool) {
	at := map[string]int{}
	for i, l := range o.loops {
		at[l.Name] = values[i]
	}
	var offsets []int
	for _, t := range o.offsets {
		offsets = append(offsets, int(t.value(at)))
	}
	for _, t := range o.guards {
		if t.value(at) == 0 {
			return offsets, false
		}
	}
	return offsets, true
}

// points returns all points that are met: all values of the outermost loop, for each of which all of the next one.
func (o *oracle) points() [][]int {
	var out [][]int
	values := make([]int, len(o.loops))
	var visit func(loop int)
	visit = func(loop int) {
		if loop < 0 {
			if offsets, holds := o.meets(values); holds {
				out = append(out, offsets)
			}
			return
		}
		for values[loop] = 0; values[loop] < o.loops[loop].Extent; values[loop]++ {
			visit(loop - 1)
		}
	}
	visit(len(o.loops) - 1)
	return out
}

func (o *oracle) reach() []int {
	out := make([]int, len(o.axes))
	if o.combinations() == 0 {
		return out
	}
	greatest := map[string]*big.Int{}
	for _, l := range o.loops {
		greatest[l.Name] = big.NewInt(int64(l.Extent - 1))
	}
	for _, back := range slices.Backward(o.back) {
		back(greatest)
	}
	for i, a := range o.axes {
		out[i] = math.MaxInt // where the document's number is beyond an int
		if n := new(big.Int).Add(greatest[a.Name], big.NewInt(1)); n.IsInt64() {
			out[i] = int(n.Int64())
		}
	}
	return out
}

func (o *oracle) once(points [][]int) bool {
	count := map[string]int{}
	for _, p := range points {
		for i, a := range o.axes {
			if p[i] < 0 || p[i] >= a.Extent {
				return false
			}
		}
		if count[fmt.Sprint(p)]++; count[fmt.Sprint(p)] > 1 {
			return false
		}
	}
	all := 1
	for _, a := range o.axes {
		all *= a.Extent
	}
	return len(count) == all
}

func (o *oracle) print() string {
	out := ""
	for i := len(o.loops) - 1; i >= 0; i-- {
		l := o.loops[i]
		out += strings.Repeat("  ", len(o.loops)-1-i) + fmt.Sprintf("%s < %d%s\n", l.Name, l.Extent, []string{"", " unrolled", " vector", " tasks", " grid", " lane"}[l.Kind])
	}
	return out
}
