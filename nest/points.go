package nest

import (
	"iter"
	"slices"

	"halation/api"
	"halation/list"
)

// point is the offsets of a stage's axes; those of axes that it does not have are 0.
type point [api.MaxDims + api.MaxAxes]int

// combinations returns how many combinations of values the loops have, but at most one more than are gone through.
func (n *nesting) combinations() int {
	count := 1
	for _, l := range n.loops {
		count = min(count*l.Extent, MaxMet+1)
	}
	return count
}

// at returns the offsets for values of the loops, and whether all guards hold.
func (n *nesting) at(values []int) (point, bool) {
	all := make([]int, n.places)
	for i, v := range values {
		all[n.loops[i].place] = v
	}
	holds := true
	for _, s := range slices.Backward(n.steps) {
		isMet := s.meet(all)
		holds = holds && isMet
	}
	var p point
	copy(p[:], all[:len(n.axes)])
	return p, holds
}

// offsets returns a point without what it has for axes that there are not.
func (n *nesting) offsets(p point) []int {
	return slices.Clone(p[:len(n.axes)])
}

// next goes on to the next combination of values; behind the last one is the first one again.
func (n *nesting) next(values []int) {
	for i, l := range n.loops {
		values[i]++
		if values[i] < l.Extent {
			return
		}
		values[i] = 0
	}
}

// points visits the points that are met in their order, also those that come again.
func (n *nesting) points() iter.Seq[point] {
	return func(yield func(point) bool) {
		values := make([]int, len(n.loops))
		for range n.combinations() {
			if p, holds := n.at(values); holds && !yield(p) {
				return
			}
			n.next(values)
		}
	}
}

// Reach returns 1 more than the greatest offset that is met, for each axis.
func Reach(p api.Pipeline, s api.Schedule, x Stage) ([]int, api.Errno) {
	n, _, err := nestingOf(p, s, x)
	if err != api.OK {
		return nil, err
	}
	return n.reach(), api.OK
}

func (n *nesting) reach() []int {
	if n.combinations() == 0 {
		return make([]int, len(n.axes))
	}
	greatest := make([]int, n.places)
	for _, l := range n.loops {
		greatest[l.place] = l.Extent - 1
	}
	for _, s := range slices.Backward(n.steps) {
		s.most(greatest)
	}
	return list.Map(greatest[:len(n.axes)], func(most int) int { return most + 1 })
}

// Meets returns the offsets for values of the loops, and whether all guards hold.
func Meets(p api.Pipeline, s api.Schedule, x Stage, values []int) ([]int, bool, api.Errno) {
	n, _, err := nestingOf(p, s, x)
	if err != api.OK {
		return nil, false, err
	}
	if err := n.valuesError(values); err != api.OK {
		return nil, false, err
	}
	at, holds := n.at(values)
	return n.offsets(at), holds, api.OK
}

// valuesError returns the error of values of the loops.
func (n *nesting) valuesError(values []int) api.Errno {
	if len(values) != len(n.loops) {
		return api.ErrShape
	}
	for i, l := range n.loops {
		if values[i] < 0 || values[i] >= l.Extent {
			return api.ErrRange
		}
	}
	return api.OK
}

// countable returns the nest of a stage whose points can be gone through.
func countable(p api.Pipeline, s api.Schedule, x Stage) (*nesting, api.Errno) {
	n, _, err := nestingOf(p, s, x)
	if err != api.OK {
		return nil, err
	}
	return n, list.ErrorIf(n.combinations() > MaxMet, api.ErrLimit)
}

// Points returns all points that are met, in their order.
func Points(p api.Pipeline, s api.Schedule, x Stage) ([][]int, api.Errno) {
	n, err := countable(p, s, x)
	if err != api.OK {
		return nil, err
	}
	return list.Map(slices.Collect(n.points()), n.offsets), api.OK
}

// Times returns how often a point is met.
func Times(p api.Pipeline, s api.Schedule, x Stage, offsets []int) (int, api.Errno) {
	n, err := countable(p, s, x)
	if err != api.OK {
		return 0, err
	}
	if len(offsets) != len(n.axes) {
		return 0, api.ErrShape
	}
	var wanted point
	copy(wanted[:], offsets)
	times := 0
	for met := range n.points() {
		if met == wanted {
			times++
		}
	}
	return times, api.OK
}

// Once reports whether each point is met once, and nothing else.
func Once(p api.Pipeline, s api.Schedule, x Stage) (bool, api.Errno) {
	n, err := countable(p, s, x)
	if err != api.OK {
		return false, err
	}
	seen := map[point]bool{}
	for met := range n.points() {
		if seen[met] {
			return false, api.OK
		}
		seen[met] = true
	}
	// Whatever the directives are, each point of the axes is met: if there are no more, there are no others.
	return len(seen) == n.size(), api.OK
}

// size returns how many combinations of offsets there are.
func (n *nesting) size() int {
	size := 1
	for _, a := range n.axes {
		size *= a.Extent
	}
	return size
}
