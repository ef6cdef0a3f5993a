package window

import (
	"iter"
	"slices"

	"halation/api"
	"halation/bound"
	"halation/list"
	"halation/nest"
	"halation/sched"
	"halation/site"
)

// request is a pipeline with its schedule and its output box, as they are asked about.
type request struct {
	p api.Pipeline
	s api.Schedule
	b api.Box
}

// function is a placed function with its region.
type function struct {
	bound.Region
	sched.Placing
	request
	regions   []bound.Region
	args      []string
	isUpdated bool
	outer     int // how many loops of the site are those of the store site
}

// find returns a placed function.
func (r request) find(name string) (function, api.Errno) {
	regions, err := bound.Regions(r.p, r.s, r.b)
	if err != api.OK {
		return function{}, err
	}
	i := slices.IndexFunc(regions, func(x bound.Region) bool { return x.Func == name })
	if i < 0 {
		return function{}, api.ErrUnknown
	}
	fn := r.p.Funcs[slices.IndexFunc(r.p.Funcs, func(fn api.Func) bool { return fn.Name == name })]
	placing, _ := sched.Plan(r.s, name)
	f := function{regions[i], placing, r, regions, fn.Args, len(fn.Updates) > 0, 0}
	if f.Store.Kind == sched.AtLoop {
		level := slices.IndexFunc(f.Site, f.isStoreLevel)
		if level < 0 {
			return function{}, api.ErrLevel
		}
		f.outer = level + 1
	}
	return f, api.OK
}

// isStoreLevel reports whether a loop is that in which the function is stored.
func (f function) isStoreLevel(l bound.Loop) bool {
	return l.Func == f.Store.Func && l.Name == f.Store.Loop
}

// isLast reports whether the function is the output.
func (f function) isLast() bool {
	return f.Func == f.regions[len(f.regions)-1].Func
}

// storeSite returns the loops outside of the storage in a copy.
func (f function) storeSite() []bound.Loop {
	out := make([]bound.Loop, f.outer)
	copy(out, f.Site)
	return out
}

// between returns the loops from the storage to the function with their kinds.
func (f function) between() []Crossed {
	return list.Map(f.Site[f.outer:], func(l bound.Loop) Crossed { return Crossed{l, f.kind(l)} })
}

func (c Crossed) isMarked() bool {
	return c.Kind != api.Serial
}

// kind returns that of a loop in the nest to which it belongs.
func (f function) kind(l bound.Loop) int {
	x := nest.Stage{Func: l.Func, Number: l.Stage}
	for _, r := range f.regions {
		if r.Func == l.Func {
			x.Box = site.Box(list.Map(r.Dims, func(d bound.Dim) int { return d.Asked }))
		}
	}
	n, _, _ := nest.Loops(f.p, f.s, x)
	i := slices.IndexFunc(n.Loops, func(own nest.Loop) bool { return own.Name == l.Name })
	return n.Loops[i].Kind
}

// stored returns the storage of the function.
func (f function) stored() (Storage, api.Errno) {
	out := Storage{Func: f.Func, Site: f.storeSite()}
	for i, d := range f.Dims {
		dim := f.dim(d)
		for _, fold := range f.Folds {
			if fold.Var == f.args[i] {
				dim.Fold = fold.Factor
			}
		}
		out.Dims = append(out.Dims, dim)
	}
	if slices.ContainsFunc(out.Dims, Dim.isLarge) {
		return Storage{}, api.ErrLarge
	}
	if err := out.largeError(); err != api.OK {
		return Storage{}, err
	}
	out.Elements = out.elements()
	return out, api.OK
}

// dim returns a dimension of the storage, as it is before it is folded.
func (f function) dim(d bound.Dim) Dim {
	var out Dim
	all := ends{d.Min.Const, d.Min.Const + d.Extent - 1}
	for _, t := range d.Min.Terms {
		i, _ := site.Loop(t.Atom, len(f.Site))
		if i < f.outer {
			out.Min.Terms = append(out.Min.Terms, t)
			continue
		}
		last := t.Coeff * (f.Site[i].Extent - 1)
		all = ends{all[0] + min(0, last), all[1] + max(0, last)}
	}
	out.Min.Const, out.Extent = all[0], all.count()
	return out
}

// slide returns how the function slides, and whether it does.
func (f function) slide() (Slide, bool) {
	last := len(f.Site) - 1
	if f.isLast() || f.isUpdated || last < f.outer || f.kind(f.Site[last]) != api.Serial {
		return Slide{}, false
	}
	var found []Slide
	for dim, d := range f.Dims {
		if d.Extent != d.Asked {
			return Slide{}, false
		}
		for _, t := range d.Min.Terms {
			if i, _ := site.Loop(t.Atom, len(f.Site)); i == last {
				found = append(found, Slide{last, dim, t.Coeff})
			}
		}
	}
	if len(found) != 1 || found[0].Step <= 0 || found[0].Step >= f.Dims[found[0].Dim].Extent {
		return Slide{}, false
	}
	return found[0], true
}

// ends are the first and the last coordinate of a dimension.
type ends [2]int

func endsOf(r api.Range) ends {
	return ends{r.Min, r.Min + r.Extent - 1}
}

func (e ends) count() int {
	return e[1] - e[0] + 1
}

// all visits the coordinates.
func (e ends) all() iter.Seq[int] {
	return func(yield func(int) bool) {
		for at := e[0]; at <= e[1]; at++ {
			if !yield(at) {
				return
			}
		}
	}
}

func (e ends) ranged() api.Range {
	return api.Range{Min: e[0], Extent: e.count()}
}

// slider is how the function slides, and whether it does.
type slider struct {
	Slide
	slides bool
}

func (f function) slider() slider {
	slide, slides := f.slide()
	return slider{slide, slides}
}

// fresh returns those coordinates of a dimension of the region's box that are fresh for values of the site's variables.
func (s slider) fresh(values []int, dim int, e ends) ends {
	if s.slides && values[s.Loop] > 0 && dim == s.Dim {
		e[0] = e[1] - s.Step + 1
	}
	return e
}

// iterations visits the values of the site's variables, the last one fastest. Each visitor gets the same list.
func (f function) iterations() iter.Seq[[]int] {
	return func(yield func([]int) bool) {
		values := make([]int, len(f.Site))
		for range f.countIterations() {
			if !yield(values) {
				return
			}
			for i, l := range slices.Backward(f.Site) {
				values[i]++
				if values[i] < l.Extent {
					break
				}
				values[i] = 0
			}
		}
	}
}

// countIterations returns how many values the site's variables have, but at most one more than are gone through.
func (f function) countIterations() int {
	count := 1
	for _, l := range f.Site {
		count = min(count*l.Extent, api.MaxPoints+1)
	}
	return count
}

// countError returns ErrLimit if there are too many values to go through.
func (f function) countError() api.Errno {
	return list.ErrorIf(f.countIterations() > api.MaxPoints, api.ErrLimit)
}

// folded returns a function and its dimension, if it can be folded at all.
func (r request) folded(f, arg string) (function, int, api.Errno) {
	x, err := r.find(f)
	if err != api.OK {
		return function{}, 0, err
	}
	dim := slices.Index(x.args, arg)
	between := x.between()
	_, large := x.stored()
	err = list.FirstError(
		list.ErrorIf(dim < 0, api.ErrUnknown),
		list.ErrorIf(x.isLast(), api.ErrKind),
		list.ErrorIf(len(between) == 0, api.ErrState),
		list.ErrorIf(slices.ContainsFunc(between, Crossed.isMarked), api.ErrRace),
		large)
	return x, dim, err
}

// overwritten returns the first values at which a coordinate of a dimension is not there any more, and whether there are some.
func (f function) overwritten(dim, factor int) ([]int, bool) {
	slider := f.slider()
	stored := f.dim(f.Dims[dim])
	there := map[int]int{}   // what was stored last at a place
	var outer, missing []int // the values of the store site's variables, and those that are looked for
search:
	for values := range f.iterations() {
		if !slices.Equal(outer, values[:f.outer]) {
			outer = slices.Clone(values[:f.outer])
			clear(there)
		}
		low := site.Value(stored.Min, outer)
		first := site.Value(f.Dims[dim].Min, values)
		needed := ends{first, first + f.Dims[dim].Extent - 1}
		for at := range slider.fresh(values, dim, needed).all() {
			there[(at-low)%factor] = at
		}
		for at := range needed.all() {
			if last, ok := there[(at-low)%factor]; !ok || last != at {
				missing = slices.Clone(values)
				break search
			}
		}
	}
	return missing, len(missing) > 0 // there are loops, if anything can be overwritten
}
