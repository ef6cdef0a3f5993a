package bound

import (
	"iter"
	"slices"

	"halation/affine"
	"halation/api"
	"halation/image"
	"halation/list"
	"halation/nest"
	"halation/pipe"
	"halation/sched"
	"halation/site"
)

// maxRounds is how often ranges of updates may become wider.
const maxRounds = 4

// region is what is found for a function of the placed pipeline.
type region struct {
	api.Func
	sched.Placing
	index   int
	site    []Loop
	ranges  []stretch // what is asked of the dimensions
	extents []int
	stages  []stage
}

// exported returns a region of which nothing else is part.
func (r region) exported() Region {
	out := Region{Func: r.Name, Site: slices.Clone(r.site)}
	for i, form := range r.mins() {
		out.Dims = append(out.Dims, Dim{form, r.ranges[i].count(), r.extents[i]})
	}
	return out
}

// mins returns where the dimensions begin.
func (r region) mins() []affine.Form {
	return list.Map(r.ranges, func(s stretch) affine.Form {
		return affine.Form{Terms: list.Map(s.kept, kept.term), Const: s.ends[0]}
	})
}

// whole returns the hull of the region's boxes.
func (r region) whole() Named {
	out := Named{Name: r.Name}
	for i, s := range r.ranges {
		s.ends[1] = s.ends[0] + r.extents[i] - 1
		all := s.flat()
		out.Box = append(out.Box, api.Range{Min: all.ends[0], Extent: all.count()})
	}
	return out
}

// limit returns the limit of a dimension, if there is one.
func (r region) limit(dim int) (ends, bool) {
	for _, l := range r.Limits {
		if l.Var == r.Args[dim] {
			return ends{l.Low, l.Low + l.Count - 1}, true
		}
	}
	return ends{}, false
}

// keep lets a dimension have the range of its limit, if there is one, and returns an error if it is not within it.
func (r *region) keep(dim int) api.Errno {
	limit, ok := r.limit(dim)
	if !ok {
		return api.OK
	}
	if !r.ranges[dim].flat().isWithin(limit) {
		return api.ErrBounds
	}
	r.ranges[dim] = stretch{ends: limit}
	return api.OK
}

// sizeError returns ErrLarge if a box has too many points; it has no other error.
func sizeError(extents []int) api.Errno {
	return list.ErrorIf(image.CheckBox(site.Box(extents)) != api.OK, api.ErrLarge)
}

// inference finds the regions of a placed pipeline from the last function to the first one.
type inference struct {
	given    api.Pipeline // whose nests count
	placed   api.Pipeline
	schedule api.Schedule
	box      api.Box
	params   knowledge
	regions  map[string]region
}

// inferred returns the regions of a pipeline, or the first error.
func inferred(p api.Pipeline, s api.Schedule, b api.Box) (*inference, api.Errno) {
	placed, err := Placed(p, s)
	if err := list.FirstError(err, image.CheckBox(b)); err != api.OK {
		return nil, err
	}
	if len(b) != len(placed.Funcs[len(placed.Funcs)-1].Args) {
		return nil, api.ErrDims
	}
	in := &inference{p, placed, s, b, params(p), map[string]region{}}
	for f, fn := range slices.Backward(placed.Funcs) {
		placing, _ := sched.Plan(s, fn.Name)
		r := region{Func: fn, Placing: placing, index: f}
		for _, step := range [...]func(*region) api.Errno{in.place, in.ask, in.widen, in.measure, in.nest, in.extend} {
			if err := step(&r); err != api.OK {
				return nil, err
			}
		}
		in.regions[fn.Name] = r
	}
	return in, api.OK
}

// found returns the regions in the order of the functions.
func (in *inference) found() []region {
	return list.Map(in.placed.Funcs, func(fn api.Func) region { return in.regions[fn.Name] })
}

func (in *inference) isLast(r *region) bool {
	return r.index == len(in.placed.Funcs)-1
}

// read is a coordinate at which something is read in a stage.
type read struct {
	stage
	dim int
	at  api.Expr
}

// reads visits the coordinates at which something is read in the functions from one on.
func (in *inference) reads(from, op int, name string) iter.Seq[read] {
	return func(yield func(read) bool) {
		for _, fn := range in.placed.Funcs[from:] {
			for _, s := range in.regions[fn.Name].stages {
				for dim, at := range reads(s.Update, op, name) {
					if !yield(read{s, dim, at}) {
						return
					}
				}
			}
		}
	}
}

// place finds the site of a function.
func (in *inference) place(r *region) api.Errno {
	if in.isLast(r) || r.Compute.Kind != sched.AtLoop {
		return api.OK
	}
	found := false
search:
	for _, s := range in.regions[r.Compute.Func].stages { // none, if it is not placed
		if r.site, found = s.upTo(r.Compute.Loop); found {
			break search
		}
	}
	if !found {
		return api.ErrLevel
	}
	for call := range in.reads(r.index+1, api.ECall, r.Name) {
		if !call.begins(r.site) {
			return api.ErrLevel
		}
	}
	return api.OK
}

// hulls returns for each dimension the hull of the ranges in which something is read.
func (in *inference) hulls(from, op int, name string, outer []Loop, check func(stretch) api.Errno) ([]stretch, api.Errno) {
	var out []stretch
	for x := range in.reads(from, op, name) {
		at, err := x.replaced(x.at)
		if err != api.OK {
			return nil, err
		}
		found, err := x.known.find(at, outer)
		if err := list.FirstError(err, check(found)); err != api.OK {
			return nil, err
		}
		if x.dim == len(out) { // the first time
			out = append(out, found)
		} else {
			out[x.dim] = out[x.dim].with(found)
		}
	}
	return out, api.OK
}

// ask finds what is asked of a function.
func (in *inference) ask(r *region) api.Errno {
	if in.isLast(r) {
		r.ranges = list.Map(in.box, func(of api.Range) stretch { return stretch{ends: endsOf(of)} })
	} else {
		var err api.Errno
		r.ranges, err = in.hulls(r.index+1, api.ECall, r.Name, r.site, func(stretch) api.Errno { return api.OK })
		if err != api.OK {
			return err
		}
	}
	for dim := range r.ranges {
		if err := r.keep(dim); err != api.OK {
			return err
		}
	}
	return api.OK
}

// widen lets dimensions that are not pure in an update have what the updates store and read, too.
func (in *inference) widen(r *region) api.Errno {
	pure := make([][]bool, len(r.Updates))
	for i := range r.Updates {
		pure[i], _ = pipe.Pure(in.placed, r.index, i+1)
	}
	changed := true
	for round := 0; changed; round++ {
		if round == maxRounds {
			return api.ErrOpen
		}
		changed = false
		for dim := range r.ranges {
			if !slices.ContainsFunc(pure, func(l []bool) bool { return !l[dim] }) {
				continue
			}
			before := r.ranges[dim].flat()
			after, err := in.wider(r, pure, dim)
			if err != api.OK {
				return err
			}
			r.ranges[dim] = after
			changed = changed || after.ends != before.ends
		}
	}
	return list.FirstError(list.Map(r.ranges, stretch.openError)...)
}

// openError returns ErrOpen if an end counts as open.
func (r stretch) openError() api.Errno {
	return list.ErrorIf(!r.isWithin(ends{-open, open}), api.ErrOpen)
}

// wider returns the hull of the range of a dimension and of what the updates store and read in it.
func (in *inference) wider(r *region, pure [][]bool, dim int) (stretch, api.Errno) {
	out := r.ranges[dim].flat()
	known := make([]knowledge, len(r.Updates))
	for i, u := range r.Updates {
		known[i] = in.inUpdate(r, u, pure[i])
		left, err := known[i].find(u.Left[dim], nil)
		if err != api.OK {
			return stretch{}, err
		}
		out = out.with(left)
	}
	for i, u := range r.Updates {
		for at, e := range reads(u, api.ECall, r.Name) {
			if at != dim {
				continue
			}
			call, err := known[i].find(e, nil)
			if err != api.OK {
				return stretch{}, err
			}
			out = out.with(call)
		}
	}
	return out, api.OK
}

// inUpdate returns what is known of the variables of an update, by the ranges that there are by then.
func (in *inference) inUpdate(r *region, u api.Update, pure []bool) knowledge {
	out := slices.Clone(in.params)
	for i, name := range r.Args {
		if pure[i] {
			out.add(name, r.ranges[i].flat().ends)
		}
	}
	for _, a := range u.Domain {
		out.add(a.Name, endsOf(a.Range))
	}
	return out
}

// measure asks whether the ranges of a region are too large.
func (in *inference) measure(r *region) api.Errno {
	for dim := range r.ranges {
		if err := r.keep(dim); err != api.OK {
			return err
		}
		s := r.ranges[dim]
		if !s.flat().isWithin(ends{-api.MaxCoord, api.MaxCoord}) || s.count() > api.MaxExtent {
			return api.ErrLarge
		}
	}
	return sizeError(list.Map(r.ranges, stretch.count))
}

// nestStage returns a stage for which nests are asked.
func (r *region) nestStage(number int) nest.Stage {
	return nest.Stage{Func: r.Name, Number: number, Box: site.Box(list.Map(r.ranges, stretch.count))}
}

// nest finds the stages of a function.
func (in *inference) nest(r *region) api.Errno {
	for number, u := range updates(r.Func) {
		n, _, err := nest.Loops(in.given, in.schedule, r.nestStage(number))
		if err != api.OK {
			return err
		}
		path := pathOf(r.site, r.Name, number, n)
		s := stage{Update: u, Nest: n, path: path, known: in.params.along(path)}
		s.coordinates = s.coordinatesOf(r.mins())
		r.stages = append(r.stages, s)
	}
	return api.OK
}

// extend finds how many points of a function are computed.
func (in *inference) extend(r *region) api.Errno {
	var err api.Errno
	r.extents, err = nest.Reach(in.given, in.schedule, r.nestStage(0))
	if err != api.OK {
		return err
	}
	for dim, n := range r.extents {
		s := r.ranges[dim]
		s.ends[1] = s.ends[0]
		if n > api.MaxExtent || s.flat().ends[1]+n-1 > api.MaxCoord {
			return api.ErrLarge
		}
	}
	return sizeError(r.extents)
}

// input returns the box of an input, which has no ranges if it is not read.
func (in *inference) input(input api.Input) (api.Box, api.Errno) {
	ranges, err := in.hulls(0, api.EImage, input.Name, nil, stretch.openError)
	if err != api.OK || len(ranges) == 0 {
		return nil, err
	}
	for _, s := range ranges {
		if !s.isWithin(ends{-api.MaxCoord, api.MaxCoord}) || s.count() > api.MaxExtent {
			return nil, api.ErrLarge
		}
	}
	if err := sizeError(list.Map(ranges, stretch.count)); err != api.OK {
		return nil, err
	}
	return list.Map(ranges, func(s stretch) api.Range { return api.Range{Min: s.ends[0], Extent: s.count()} }), api.OK
}
