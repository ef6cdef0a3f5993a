package pipe

import (
	"slices"

	"halation/api"
	"halation/list"
)

// graph is a right pipeline whose functions use one another.
type graph api.Pipeline

// read returns the indices of what the nodes with an Op in a function's expressions name, ascending.
func (g graph) read(f, op int) []int {
	var found []string
	for n := range nodes(api.Pipeline(g), f) {
		if n.Op == op {
			found = append(found, n.Name)
		}
	}
	indices := list.Map(found, namesOf(api.Pipeline(g)).index)
	slices.Sort(indices)
	return slices.Compact(indices)
}

// uses reports whether a function uses another one.
func (g graph) uses(f, other int) bool {
	return f != other && slices.Contains(g.read(f, api.ECall), other)
}

func (g graph) isUsedBy(f, other int) bool {
	return g.uses(other, f)
}

// selected returns the functions that have some relation to one, ascending.
func (g graph) selected(f int, has func(g graph, f, other int) bool) []int {
	var out []int
	for other := range g.Funcs {
		if has(g, f, other) {
			out = append(out, other)
		}
	}
	return out
}

// needed reports which functions the output needs.
func (g graph) needed() []bool {
	out := make([]bool, len(g.Funcs))
	out[len(out)-1] = true
	for f := len(out) - 1; f >= 0; f-- { // all users of a function stand behind it
		if !out[f] {
			continue
		}
		for _, used := range g.read(f, api.ECall) {
			out[used] = true
		}
	}
	return out
}

// Uses returns the functions that a function uses.
func Uses(p api.Pipeline, f int) ([]int, api.Errno) {
	if err := funcError(p, f); err != api.OK {
		return nil, err
	}
	return graph(p).selected(f, graph.uses), api.OK
}

// Users returns the functions that use a function.
func Users(p api.Pipeline, f int) ([]int, api.Errno) {
	if err := funcError(p, f); err != api.OK {
		return nil, err
	}
	return graph(p).selected(f, graph.isUsedBy), api.OK
}

// Images returns the inputs that a function reads.
func Images(p api.Pipeline, f int) ([]int, api.Errno) {
	if err := funcError(p, f); err != api.OK {
		return nil, err
	}
	return graph(p).read(f, api.EImage), api.OK
}

// Dead returns the functions that the output does not need.
func Dead(p api.Pipeline) ([]int, api.Errno) {
	if _, err := Check(p); err != api.OK {
		return nil, err
	}
	var out []int
	for f, needed := range graph(p).needed() {
		if !needed {
			out = append(out, f)
		}
	}
	return out, api.OK
}

// Size returns the number of nodes of all expressions.
func Size(p api.Pipeline) (int, api.Errno) {
	if _, err := Check(p); err != api.OK {
		return 0, err
	}
	size := 0
	for f := range p.Funcs {
		for range nodes(p, f) {
			size++
		}
	}
	return size, api.OK
}
