package nest

import (
	"slices"

	"halation/api"
	"halation/list"
)

// way is what the directives with an Op do: they are refused, or change the nest. Some make loops of a kind.
type way struct {
	apply func(n *nesting, d api.Directive) api.Errno
	kind  int
}

// wayOf returns the way of an Op from Split to Threads.
func wayOf(op int) way {
	table := [...]way{
		api.Split:     {apply: (*nesting).split},
		api.Fuse:      {apply: (*nesting).fuse},
		api.Reorder:   {apply: (*nesting).reorder},
		api.Rename:    {apply: (*nesting).rename},
		api.Unroll:    {apply: (*nesting).mark, kind: api.Unrolled},
		api.Vectorize: {apply: (*nesting).mark, kind: api.Vector},
		api.Parallel:  {apply: (*nesting).mark, kind: api.Tasks},
		api.Blocks:    {apply: (*nesting).mark, kind: api.Grid},
		api.Threads:   {apply: (*nesting).mark, kind: api.Lane},
	}
	return table[op]
}

// apply applies a right directive. The nest is of no use any more, if it is refused.
func (n *nesting) apply(d api.Directive) api.Errno {
	if err := wayOf(d.Op).apply(n, d); err != api.OK {
		return err
	}
	return list.ErrorIf(len(n.loops) > api.MaxDepth, api.ErrMany)
}

func (n *nesting) split(d api.Directive) api.Errno {
	l, err := n.serial(d.Vars[0])
	if err != api.OK {
		return err
	}
	v := l[0]
	if err := list.FirstError(n.newError(d.Vars[1:]...), n.tailError(d, v.Extent)); err != api.OK {
		return err
	}
	parts := sizesOf(v.Extent, d.Factor)
	inner := n.made(v, d.Vars[2], parts[0])
	outer := n.made(v, d.Vars[1], parts[1])
	at := slices.Index(n.loops, v)
	n.loops = slices.Replace(n.loops, at, at+1, inner, outer)
	s := splitting{v, inner, outer, d.Tail == api.ShiftInward, d.Tail == api.Guard && !parts.divide(v.Extent)}
	n.steps = append(n.steps, s)
	if err := n.put(v.Name, s.expr()); err != api.OK {
		return err
	}
	if s.isGuarded {
		n.guards = append(n.guards, operation(api.ELt, s.expr(), integer(v.Extent)))
	}
	return api.OK
}

// tailError returns the error of a split's tail for a loop with an extent.
func (n *nesting) tailError(d api.Directive, extent int) api.Errno {
	switch d.Tail {
	case api.RoundUp:
		return list.ErrorIf(n.isUpdate, api.ErrTail)
	case api.ShiftInward:
		return list.ErrorIf(n.isUpdate || extent < d.Factor, api.ErrTail)
	case api.Exact:
		return list.ErrorIf(!sizesOf(extent, d.Factor).divide(extent), api.ErrTail)
	}
	return api.OK
}

func (n *nesting) fuse(d api.Directive) api.Errno {
	l, err := n.serial(d.Vars[0], d.Vars[1])
	if err != api.OK {
		return err
	}
	a, b := l[0], l[1]
	at := slices.Index(n.loops, a)
	err = list.FirstError(
		list.ErrorIf(slices.Index(n.loops, b) != at+1, api.ErrOrder),
		list.ErrorIf(a.Domain != b.Domain, api.ErrConflict),
		n.newError(d.Vars[2]),
		list.ErrorIf(a.Extent*b.Extent > api.MaxPoints, api.ErrLarge))
	if err != api.OK {
		return err
	}
	t := n.made(a, d.Vars[2], a.Extent*b.Extent)
	n.loops = slices.Replace(n.loops, at, at+2, t)
	n.steps = append(n.steps, fusion{inner: a, outer: b, whole: t})
	name, extent := variable(t.Name), integer(a.Extent)
	return list.FirstError(
		n.put(a.Name, operation(api.EMod, name, extent)),
		n.put(b.Name, operation(api.EDiv, name, extent)))
}

func (n *nesting) reorder(d api.Directive) api.Errno {
	l, err := n.found(d.Vars...)
	if err != api.OK {
		return err
	}
	before := make([]loop, len(n.loops))
	copy(before, n.loops)
	moved := 0
	for i, old := range before {
		if slices.Contains(l, old) {
			n.loops[i] = l[moved]
			moved++
		}
	}
	return api.OK
}

func (n *nesting) rename(d api.Directive) api.Errno {
	l, err := n.find(d.Vars[0])
	if err := list.FirstError(err, n.newError(d.Vars[1])); err != api.OK {
		return err
	}
	n.loops[slices.Index(n.loops, l)].Name = d.Vars[1]
	return n.put(d.Vars[0], variable(d.Vars[1]))
}

// mark says how a loop goes.
func (n *nesting) mark(d api.Directive) api.Errno {
	l, err := n.serial(d.Vars[0])
	if err != api.OK {
		return err
	}
	kind := wayOf(d.Op).kind
	n.loops[slices.Index(n.loops, l[0])].Kind = kind
	return list.ErrorIf(kind == api.Vector && l[0].Extent > api.MaxLanes, api.ErrVector)
}
