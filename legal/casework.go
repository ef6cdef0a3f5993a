package legal

import (
	"iter"
	"slices"

	"halation/api"
	"halation/bound"
	"halation/expr"
	"halation/list"
	"halation/nest"
	"halation/sched"
	"halation/site"
	"halation/window"
)

// maxUnrolled is how often a loop may go that is unrolled.
const maxUnrolled = 64

// casework is what is known of the placed functions when there are regions.
type casework struct {
	request
	regions []bound.Region
	stages  map[string][]stage
}

// stage is a stage of a placed function with its nest.
type stage struct {
	nest.Nest
	update
	number int
}

// asked returns a stage of a placed function as its nest is asked for.
func asked(r bound.Region, number int) nest.Stage {
	box := site.Box(list.Map(r.Dims, func(d bound.Dim) int { return d.Asked }))
	return nest.Stage{Func: r.Func, Number: number, Box: box}
}

// stages returns those of a function of the placed pipeline.
func (r request) stages(placed api.Pipeline, f int, region bound.Region) []stage {
	var out []stage
	for number := range len(placed.Funcs[f].Updates) + 1 {
		n, _, _ := nest.Loops(r.p, r.s, asked(region, number))
		out = append(out, stage{n, updateOf(placed, f, number), number})
	}
	return out
}

// kind returns that of a loop of a site.
func (c casework) kind(l bound.Loop) int {
	loops := c.stages[l.Func][l.Stage].Loops
	return loops[slices.IndexFunc(loops, func(own nest.Loop) bool { return own.Name == l.Name })].Kind
}

// verdict returns that about a function.
func (c casework) verdict(r bound.Region) (Verdict, api.Errno) {
	if err := c.functionError(r); err != api.OK {
		return Verdict{Func: r.Func, Stage: whole}, err
	}
	outer := list.Map(r.Site, c.kind)
	for _, s := range c.stages[r.Func] {
		if err := s.error(len(outer)); err != api.OK {
			return Verdict{Func: r.Func, Stage: s.number}, err
		}
		for l := range s.looked(outer) {
			if err := l.error(); err != api.OK {
				return Verdict{Func: r.Func, Stage: s.number, Loop: l.Name}, err
			}
		}
	}
	return Verdict{}, api.OK
}

// isLast reports whether a region is that of the output.
func (c casework) isLast(r bound.Region) bool {
	return r.Func == c.regions[len(c.regions)-1].Func
}

// functionError returns the error of a function as a whole.
func (c casework) functionError(r bound.Region) api.Errno {
	placing, _ := sched.Plan(c.s, r.Func)
	isLast := c.isLast(r)
	err := list.FirstError(
		list.ErrorIf(isLast && slices.ContainsFunc(r.Dims, isTailed), api.ErrTail),
		list.ErrorIf(isLast && !slices.EqualFunc(r.Dims, c.b, isOf), api.ErrBounds),
		list.ErrorIf(placing.Memo && (isLast || placing.Compute.Kind != sched.AtRoot), api.ErrState),
		list.ErrorIf(slices.Contains(list.Map(r.Site, c.kind), api.Vector), api.ErrLevel))
	if err != api.OK {
		return err
	}
	if _, err := window.Stored(c.p, c.s, c.b, r.Func); err != api.OK {
		return err
	}
	between, _ := window.Between(c.p, c.s, c.b, r.Func)
	if slices.ContainsFunc(between, func(l window.Crossed) bool { return l.Kind >= api.Tasks }) {
		return api.ErrRace
	}
	for _, fold := range placing.Folds {
		least, err := window.LeastFold(c.p, c.s, c.b, r.Func, fold.Var)
		if err := list.FirstError(err, list.ErrorIf(fold.Factor < least, api.ErrFold)); err != api.OK {
			return err
		}
	}
	return api.OK
}

func isTailed(d bound.Dim) bool {
	return d.Extent != d.Asked
}

// isOf reports whether a dimension is just that of the output box.
func isOf(d bound.Dim, r api.Range) bool {
	return len(d.Min.Terms) == 0 && d.Min.Const == r.Min && d.Asked == r.Extent
}

// error returns the error of a stage in so many loops.
func (s stage) error(outer int) api.Errno {
	if outer+len(s.Loops) > api.MaxDepth {
		return api.ErrMany
	}
	inOrder, err := domainOf(s.Nest).isInOrder()
	isMet := slices.ContainsFunc(s.Domain, func(a api.Axis) bool { return !s.isApart(a.Name) })
	return list.FirstError(err, list.ErrorIf(!inOrder && isMet, api.ErrOrder))
}

// looked is a loop of a stage's nest that is looked at.
type looked struct {
	nest.Loop
	stage stage
	inner []nest.Loop // those inside of it
	outer []int       // the kinds of those outside of it
}

// looked visits the loops of a stage's nest, the outermost one first.
func (s stage) looked(outer []int) iter.Seq[looked] {
	return func(yield func(looked) bool) {
		for i, l := range slices.Backward(s.Loops) {
			kinds := list.Map(s.Loops[i+1:], func(l nest.Loop) int { return l.Kind })
			if !yield(looked{l, s, s.Loops[:i], slices.Concat(outer, kinds)}) {
				return
			}
		}
	}
}

// ban is what loops of a kind must not be.
type ban struct {
	is  func(l looked) bool
	err api.Errno
}

// bans returns what loops of a kind must not be, in the order in which it is asked.
func bans(kind int) []ban {
	table := [api.Loops][]ban{
		api.Unrolled: {{looked.isLong, api.ErrLarge}},
		api.Vector:   {{looked.races, api.ErrRace}, {looked.hasMarkedInside, api.ErrVector}},
		api.Tasks:    {{looked.races, api.ErrRace}, {looked.isInGrid, api.ErrLevel}},
		api.Grid:     {{looked.races, api.ErrRace}, {looked.isInGrid, api.ErrLevel}},
		api.Lane:     {{looked.races, api.ErrRace}, {looked.isOutsideOfGrid, api.ErrLevel}},
	}
	return table[kind]
}

// error returns the first error of a loop.
func (l looked) error() api.Errno {
	return list.FirstError(list.Map(bans(l.Kind), func(b ban) api.Errno { return list.ErrorIf(b.is(l), b.err) })...)
}

// races reports whether an axis of the domain that comes from the loop is not apart.
func (l looked) races() bool {
	for i, a := range l.stage.Axes {
		names, _ := expr.Free(l.stage.Offsets[i])
		if a.Dim < 0 && slices.Contains(names, l.Name) && !l.stage.isApart(a.Name) {
			return true
		}
	}
	return false
}

func (l looked) hasMarkedInside() bool {
	return slices.ContainsFunc(l.inner, func(inner nest.Loop) bool { return inner.Kind != api.Serial && inner.Kind != api.Unrolled })
}

func (l looked) isLong() bool {
	return l.Extent > maxUnrolled
}

func (l looked) isInGrid() bool {
	return slices.Contains(l.outer, api.Grid)
}

func (l looked) isOutsideOfGrid() bool {
	return !l.isInGrid()
}
