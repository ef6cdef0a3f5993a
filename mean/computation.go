package mean

import (
	"cmp"
	"slices"

	"halation/api"
	"halation/image"
	"halation/list"
)

// function is a function with its place in the pipeline.
type function struct {
	api.Func
	place int
	pure  [][]bool // which dimensions are pure, update by update
}

// isPure reports whether a dimension is pure in an update.
func (fn function) isPure(stage, dim int) bool {
	return fn.pure[stage-1][dim]
}

// pointOf returns a point at which a function is asked for.
func (fn function) pointOf(p []int) (point, api.Errno) {
	var out point
	if err := list.FirstError(list.ErrorIf(len(p) != len(fn.Args), api.ErrDims), list.ErrorIf(slices.ContainsFunc(p, isFar), api.ErrRange)); err != api.OK {
		return out, err
	}
	copy(out[:], p)
	return out, api.OK
}

// started is a function at a point, for what its pure definition has there.
type started struct {
	function int
	point
}

// sliced is a slice of a function's update: its pure coordinates, and 0 in the other dimensions.
type sliced struct {
	function int
	stage    int
	point
}

// reading is a point of an input or a function that has been read.
type reading struct {
	name string
	dims int
	point
}

func (r reading) compare(s reading) int {
	if order := cmp.Compare(r.name, s.name); order != 0 {
		return order
	}
	return r.point.compare(s.point)
}

// computation is what is known while values of a right pipeline are computed.
type computation struct {
	images    []api.Image // dense ones
	params    []api.Value
	functions []function
	index     map[string]int // of inputs, parameters and functions
	values    map[started]api.Value
	slices    map[sliced]*slice
	reads     map[reading]bool // nil, if nobody asks for them
	work      int
}

func computationOf(p api.Pipeline, g api.Given) *computation {
	c := &computation{params: g.Params, index: map[string]int{}, values: map[started]api.Value{}, slices: map[sliced]*slice{}}
	for i, in := range p.Inputs {
		c.index[in.Name] = i
	}
	for i, param := range p.Params {
		c.index[param.Name] = i
	}
	for i, f := range p.Funcs {
		c.index[f.Name] = i
		fn := function{Func: f, place: i}
		for k := range len(f.Updates) {
			pure, _ := Pure(f, k)
			fn.pure = append(fn.pure, pure)
		}
		c.functions = append(c.functions, fn)
	}
	c.images = list.Map(g.Images, func(im api.Image) api.Image {
		out, _ := image.Dense(im)
		return out
	})
	return c
}

// add adds to the work, before what it stands for is done.
func (c *computation) add(work int) api.Errno {
	c.work += work
	return list.ErrorIf(c.work > MaxWork, api.ErrLimit)
}

// image computes the values of a function in a box.
func (c *computation) image(fn function, b api.Box) (api.Image, api.Errno) {
	l, err := image.Points(b)
	if err := list.FirstError(err, list.ErrorIf(len(b) != len(fn.Args), api.ErrDims)); err != api.OK {
		return api.Image{}, err
	}
	data := make([]uint64, len(l))
	for i, p := range l {
		v, err := c.whole(fn, point(append(p, 0, 0, 0)[:api.MaxDims]))
		if err != api.OK {
			return api.Image{}, err
		}
		data[i] = v.Bits
	}
	return image.Make(fn.Kind, b, data)
}

// whole returns the value of a function at a point after its last stage.
func (c *computation) whole(fn function, p point) (api.Value, api.Errno) {
	return c.after(fn, len(fn.Updates), p)
}

// after returns the value of a function at a point after a stage.
func (c *computation) after(fn function, stage int, p point) (api.Value, api.Errno) {
	if stage == 0 {
		return c.first(fn, p)
	}
	s, err := c.sliceOf(fn, stage, p)
	if err != api.OK {
		return api.Value{}, err
	}
	return s.find(p)
}

// first returns the value of a function's pure definition at a point.
func (c *computation) first(fn function, p point) (api.Value, api.Errno) {
	key := started{fn.place, p}
	if v, ok := c.values[key]; ok {
		return v, api.OK
	}
	if err := c.add(1); err != api.OK {
		return api.Value{}, err
	}
	s := scope{names: fn.Args, numbers: p[:]}
	v, err := c.value(s, fn.Value)
	if err == api.OK {
		c.values[key] = v
	}
	return v, err
}

// read notes that something has been read, if somebody asks for it.
func (c *computation) read(name string, dims int, p point) {
	if c.reads != nil {
		c.reads[reading{name, dims, p}] = true
	}
}

// sortedReads returns what has been read.
func (c *computation) sortedReads() []Read {
	var l []reading
	for r := range c.reads {
		l = append(l, r)
	}
	slices.SortFunc(l, reading.compare)
	return list.Map(l, func(r reading) Read { return Read{r.name, slices.Clone(r.point[:r.dims])} })
}
