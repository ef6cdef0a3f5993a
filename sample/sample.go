// Package sample makes pipelines, schedules and boxes for the tests of other packages, by numbers that are picked.
package sample

import (
	"slices"
	"strconv"
	"strings"

	"halation/api"
	"halation/front"
)

// Picker picks a number from 0 to n - 1.
type Picker interface {
	Intn(n int) int
}

// Maker makes things by the numbers that are picked.
type Maker struct {
	Picker
}

// one returns one of several things.
func one[T any](m Maker, l ...T) T {
	return l[m.Intn(len(l))]
}

// readable is a function or an input that may be read.
type readable struct {
	name    string
	dims    int
	isInput bool
}

// writing is the text of a pipeline that is being written.
type writing struct {
	Maker
	strings.Builder
	readables []readable
	isStencil bool
}

// scope is the variables of a stage.
type scope []string

// Pipeline returns a right pipeline with two inputs, three parameters, and two to four functions.
func (m Maker) Pipeline() api.Pipeline {
	return m.pipeline(false)
}

// Stencils returns a pipeline whose functions hardly have updates, and read what is near.
func (m Maker) Stencils() api.Pipeline {
	return m.pipeline(true)
}

func (m Maker) pipeline(isStencil bool) api.Pipeline {
	for {
		if p, _, _, err := front.Parse(m.text(isStencil)); err == api.OK { // some expressions are too long
			return p
		}
	}
}

func (m Maker) text(isStencil bool) string {
	w := &writing{Maker: m, isStencil: isStencil}
	dims := 1 + m.Intn(2)
	w.WriteString("pipeline p\ninput a u8 1\ninput b bool " + strconv.Itoa(dims) + "\nparam g i32 -1 2\nparam k u8 0 3\nparam big i64 -5 9000000000000000000\n")
	w.readables = []readable{{"a", 1, true}, {"b", dims, true}}
	count := 1 + m.Intn(3)
	for i := range count {
		w.function("f" + strconv.Itoa(i))
	}
	w.function("out")
	w.WriteString("end\n")
	return w.String()
}

// names returns the Args of a function, and the axes that its updates may have.
func (m Maker) names() (args, axes []string) {
	if m.Intn(4) == 0 { // as the variables of paths are named
		return []string{"s1", "s0", "x"}, []string{"s2", "r"}
	}
	return []string{"x", "y", "z"}, []string{"r", "q"}
}

func (w *writing) function(name string) {
	args, axes := w.names()
	args = args[:one(w.Maker, 1, 1, 1, 1, 2, 2, 2, 3)]
	w.WriteString("func " + name + "(" + strings.Join(args, ", ") + ") i32 = " + w.value(args, "") + "\n")
	for range one(w.Maker, 0, 0, 0, 1, 1, 2) {
		if !w.isStencil || w.Intn(8) == 0 {
			w.update(name, args, axes)
		}
	}
	w.readables = append(w.readables, readable{name, len(args), false})
}

// update writes an update of a function.
func (w *writing) update(name string, args, axes []string) {
	axes = axes[:w.Intn(3)]
	for _, axis := range axes {
		w.WriteString("over " + axis + " " + one(w.Maker, "0", "0", "1", "-2") + " " + one(w.Maker, "1", "2", "3", "4", "5") + "\n")
	}
	vars := scope(slices.Clone(axes))
	isPure := make([]bool, len(args))
	for i, arg := range args {
		isPure[i] = w.Intn(2) == 0 || len(axes) == 0 && w.Intn(2) == 0
		if isPure[i] {
			vars = append(vars, arg)
		}
	}
	left := slices.Clone(args)
	for i := range left {
		for !isPure[i] && left[i] == args[i] {
			left[i] = w.left(vars)
		}
	}
	self := slices.Clone(left)
	for i := range self {
		if !isPure[i] && w.Intn(4) == 0 {
			self[i] = w.coordinate(vars, 1)
		}
	}
	call := name + "(" + strings.Join(self, ", ") + ")"
	value := w.value(vars, call)
	if w.Intn(4) == 0 {
		w.WriteString("where " + w.coordinate(vars, 1) + " < " + call + "\n")
	}
	w.WriteString("set " + strings.Join(left, ", ") + " = " + value + "\n")
}

// left returns the coordinate of an update.
func (w *writing) left(vars scope) string {
	if w.Intn(3) == 0 {
		return w.coordinate(vars, 1)
	}
	v := w.variable(vars)
	return one(w.Maker, v, v, v+" + 1", v+" * 2", "3 - "+v, v+" * 2 + 1")
}

// value returns a sum of what is read, and perhaps of something more.
func (w *writing) value(vars scope, more string) string {
	var l []string
	for range 1 + w.Intn(2) {
		r := w.readable()
		l = append(l, w.readOf(r, vars, 2))
		for range w.Intn(3) {
			if w.isStencil {
				l = append(l, w.readOf(r, vars, 2))
			}
		}
	}
	if more != "" && w.Intn(4) > 0 {
		l = append(l, more)
	}
	if w.Intn(3) == 0 {
		l = append(l, w.coordinate(vars, 1))
	}
	return strings.Join(l, " + ")
}

// readable returns a function or an input, the last ones more often.
func (w *writing) readable() readable {
	if w.isStencil && w.Intn(2) == 0 {
		return w.readables[len(w.readables)-1]
	}
	return w.readables[len(w.readables)-1-w.Intn(min(3, len(w.readables)))]
}

// readOf returns the call of a function, or what is read of an input.
func (w *writing) readOf(r readable, vars scope, depth int) string {
	var l []string
	for i := range r.dims {
		if w.isStencil && w.Intn(20) > 0 {
			l = append(l, w.near(vars, i))
		} else {
			l = append(l, w.coordinate(vars, depth-1))
		}
	}
	if r.isInput {
		return "i32(" + r.name + "[" + strings.Join(l, ", ") + "])"
	}
	return r.name + "(" + strings.Join(l, ", ") + ")"
}

func (w *writing) variable(vars scope) string {
	if len(vars) == 0 {
		return strconv.Itoa(w.Intn(4))
	}
	return vars[w.Intn(len(vars))]
}

// near returns a coordinate that is near to that of a dimension.
func (w *writing) near(vars scope, dim int) string {
	if dim >= len(vars) {
		return strconv.Itoa(w.Intn(2))
	}
	return vars[dim] + one(w.Maker, "", "", " + 1", " + 2", " - 1", " - 2", " * 2", " * 2 + 1")
}

// coordinate returns an expression that has not too many values, as often as not a variable and a number.
func (w *writing) coordinate(vars scope, depth int) string {
	v, n := w.variable(vars), one(w.Maker, "1", "2", "3")
	switch w.Intn(24) {
	case 0, 1, 2, 3:
		return v + " + " + n
	case 4, 5, 6:
		return v + " - " + n
	case 7, 8:
		return v + " * 2"
	case 9:
		return n + " - " + v
	case 10:
		return v + " / 2"
	case 11:
		return v + " % " + n
	case 12:
		return "min(" + v + ", " + n + ")"
	case 13:
		return "max(" + v + " - 1, " + n + ")"
	case 14:
		return v + " + " + w.variable(vars)
	case 15:
		return v + " + " + one(w.Maker, "@g", "i32(@k)", "@g * 2")
	case 16:
		return "select(" + v + " < 2, " + v + ", " + n + ")"
	case 17:
		return n
	case 18:
		if depth > 0 {
			return w.readOf(w.readable(), vars, depth) + one(w.Maker, " % 4", " & 3", " % 3 + "+v)
		}
	}
	return v
}

// Box returns a box for the output of a pipeline.
func (m Maker) Box(p api.Pipeline) api.Box {
	var out api.Box
	for range p.Funcs[len(p.Funcs)-1].Args {
		out = append(out, api.Range{Min: one(m, 0, 0, 1, -3, 7), Extent: one(m, 1, 2, 3, 4, 5, 6, 7, 8, 8, 12)})
	}
	return out
}
