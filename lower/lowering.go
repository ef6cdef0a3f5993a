package lower

import (
	"slices"
	"strconv"

	"halation/affine"
	"halation/api"
	"halation/bound"
	"halation/image"
	"halation/legal"
	"halation/list"
	"halation/nest"
	"halation/site"
	"halation/window"
)

// request is a pipeline with its schedule, its output box and the boxes of its inputs, as they are asked about.
type request struct {
	p      api.Pipeline
	s      api.Schedule
	b      api.Box
	inputs []api.Box
}

// lowering is a request that can be lowered, with what is known of its placed pipeline.
type lowering struct {
	request
	placed  api.Pipeline
	regions []bound.Region
	held    []Held
	buffers map[string]Held // by the names of what they hold
	params  map[string]string
}

// function is a function of the placed pipeline with its region and its buffer. Its stages are there when they are asked
// for by the program.
type function struct {
	api.Func
	region bound.Region
	held   Held
	stages []*stage
}

// stage is a stage of a function with its path. A pure definition is an update that has only a value.
type stage struct {
	api.Update
	nest.Nest
	*lowering
	of         function
	number     int
	path       []bound.Loop
	statements []api.Stmt // those of one point, when they are asked for by the program
}

// opened returns what is known of a request, if its schedule is accepted.
func (r request) opened() (*lowering, api.Errno) {
	if _, err := legal.Check(r.p, r.s, r.b); err != api.OK {
		return nil, err
	}
	if err := list.FirstError(r.boxesError(), bound.CheckInputs(r.p, r.s, r.b, r.inputs)); err != api.OK {
		return nil, err
	}
	l := &lowering{request: r, buffers: map[string]Held{}, params: map[string]string{}}
	l.placed, _ = bound.Placed(r.p, r.s) // what is accepted has no error in any of this
	l.regions, _ = bound.Regions(r.p, r.s, r.b)
	for i, in := range r.p.Inputs {
		l.held = append(l.held, Held{in.Name, numbered("i", i), false, in.Kind, stored(r.inputs[i])})
	}
	for i, fn := range l.placed.Funcs {
		storage, _ := window.Stored(r.p, r.s, r.b, fn.Name)
		l.held = append(l.held, Held{fn.Name, numbered("f", i), true, fn.Kind, storage})
	}
	for _, h := range l.held {
		l.buffers[h.Of] = h
	}
	for i, x := range r.p.Params {
		l.params[x.Name] = numbered("p", i)
	}
	return l, api.OK
}

// boxesError returns the error of the boxes of the inputs themselves.
func (r request) boxesError() api.Errno {
	if len(r.inputs) != len(r.p.Inputs) {
		return api.ErrShape
	}
	for i, b := range r.inputs {
		if err := list.FirstError(image.CheckBox(b), list.ErrorIf(len(b) != r.p.Inputs[i].Dims, api.ErrDims)); err != api.OK {
			return err
		}
	}
	return api.OK
}

// numbered returns a name in a lowered program.
func numbered(letter string, i int) string {
	return letter + strconv.Itoa(i)
}

// stored returns the storage of a box.
func stored(b api.Box) window.Storage {
	out := window.Storage{Elements: 1}
	for _, r := range b {
		out.Dims = append(out.Dims, window.Dim{Min: affine.Form{Const: r.Min}, Extent: r.Extent})
		out.Elements *= r.Extent
	}
	return out
}

// function returns the function of the placed pipeline with a name, if there is one.
func (l *lowering) function(name string) (function, bool) {
	var out function
	found := false
search:
	for i, fn := range l.placed.Funcs {
		if fn.Name == name {
			out, found = function{Func: fn, region: l.regions[i], held: l.buffers[name]}, true
			break search
		}
	}
	return out, found
}

// stage returns a stage of a function.
func (l *lowering) stage(f function, number int) *stage {
	all := slices.Concat([]api.Update{{Value: f.Value}}, f.Updates)
	asked := site.Box(list.Map(f.region.Dims, func(d bound.Dim) int { return d.Asked }))
	n, _, _ := nest.Loops(l.p, l.s, nest.Stage{Func: f.Name, Number: number, Box: asked})
	path, _ := bound.Path(l.p, l.s, l.b, f.Name, number)
	return &stage{all[number], n, l, f, number, path, nil}
}
