package window_test

import (
	"maps"
	"math/rand"
	"slices"
	"strconv"
	"testing"

	"halation/affine"
	"halation/api"
	"halation/bound"
	"halation/expr"
	"halation/lang"
	"halation/nest"
	"halation/sample"
	"halation/sched"
	"halation/window"
)

// made returns a pipeline, a schedule and a box, which have regions more often than not.
func made(seed int64) (api.Pipeline, api.Schedule, api.Box, sample.Maker) {
	m := sample.Maker{Picker: rand.New(rand.NewSource(seed))}
	p := m.Pipeline()
	if m.Intn(3) > 0 {
		p = m.Stencils()
	}
	b := m.Box(p)
	if m.Intn(20) == 0 {
		b[m.Intn(len(b))].Extent = 0
	}
	s := m.Schedule(p, func(s api.Schedule) bool {
		if _, err := sched.CheckFor(p, s); err != api.OK {
			return false
		}
		_, err := bound.Regions(p, s, b)
		return err == api.OK || err == api.ErrState || m.Intn(40) == 0
	})
	for _, f := range p.Funcs[:len(p.Funcs)-1] {
		more := append(slices.Clone(s), api.Directive{Func: f.Name, Op: api.StoreRoot})
		if _, err := sched.CheckFor(p, more); err == api.OK && m.Intn(2) == 0 {
			s = more
		}
	}
	return p, s, b, m
}

// oracle answers in the document's words what is asked about a placed function.
type oracle struct {
	p       api.Pipeline
	s       api.Schedule
	b       api.Box
	regions []bound.Region
	region  bound.Region
	placing sched.Placing
	fn      api.Func
	store   []bound.Loop
	slider  window.Slide
	slides  bool
	err     api.Errno
}

func newOracle(p api.Pipeline, s api.Schedule, b api.Box, name string) oracle {
	o := oracle{p: p, s: s, b: b}
	if o.regions, o.err = bound.Regions(p, s, b); o.err != api.OK {
		return o
	}
	o.err = api.ErrUnknown
	for _, r := range o.regions {
		if r.Func == name {
			o.region, o.err = r, api.OK
		}
	}
	if o.err != api.OK {
		return o
	}
	for _, fn := range p.Funcs {
		if fn.Name == name {
			o.fn = fn
		}
	}
	o.placing, _ = sched.Plan(s, name)
	if o.placing.Store.Kind == sched.AtLoop {
		o.err = api.ErrLevel
		for i, l := range o.region.Site {
			if l.Func == o.placing.Store.Func && l.Name == o.placing.Store.Loop && o.err != api.OK {
				o.store, o.err = o.region.Site[:i+1], api.OK
			}
		}
	}
	if o.err == api.OK {
		o.slider, o.slides = o.slide()
	}
	return o
}

func (o oracle) isLast() bool { return o.region.Func == o.p.Funcs[len(o.p.Funcs)-1].Name }

// kind returns that of a loop.
func (o oracle) kind(l bound.Loop) int {
	for _, r := range o.regions {
		if r.Func != l.Func {
			continue
		}
		x := nest.Stage{Func: l.Func, Number: l.Stage}
		for _, d := range r.Dims {
			x.Box = append(x.Box, api.Range{Extent: d.Asked})
		}
		n, _, _ := nest.Loops(o.p, o.s, x)
		for _, own := range n.Loops {
			if own.Name == l.Name {
				return own.Kind
			}
		}
	}
	panic("kind")
}

func (o oracle) between() []window.Crossed {
	var out []window.Crossed
	for _, l := range o.region.Site[len(o.store):] {
		out = append(out, window.Crossed{Loop: l, Kind: o.kind(l)})
	}
	return out
}

// loopOf returns the index of the loop of a term.
func loopOf(t affine.Term) int {
	i, err := strconv.Atoi(t.Atom[0].Name[1:])
	if err != nil {
		panic(err)
	}
	return i
}

// ends returns the least and the greatest value of terms, and of a number, which are found loop by loop.
func (o oracle) ends(terms []affine.Term, n int) (int, int) {
	if len(terms) == 0 {
		return n, n
	}
	last := terms[0].Coeff * (o.region.Site[loopOf(terms[0])].Extent - 1)
	a, b := o.ends(terms[1:], n)
	return min(a, a+last), max(b, b+last)
}

func (o oracle) stored() (window.Storage, api.Errno) {
	out := window.Storage{Func: o.fn.Name, Site: o.store, Elements: 1}
	for i, d := range o.region.Dims {
		var x window.Dim
		var rest []affine.Term
		for _, t := range d.Min.Terms {
			if loopOf(t) < len(o.store) {
				x.Min.Terms = append(x.Min.Terms, t)
			} else {
				rest = append(rest, t)
			}
		}
		low, high := o.ends(rest, d.Min.Const)
		x.Min.Const, x.Extent = low, high+d.Extent-low
		for _, f := range o.placing.Folds {
			if f.Var == o.fn.Args[i] {
				x.Fold = f.Factor
			}
		}
		if x.Extent > api.MaxPoints {
			return window.Storage{}, api.ErrLarge
		}
		if x.Fold > 0 {
			out.Elements *= x.Fold
		} else {
			out.Elements *= x.Extent
		}
		out.Dims = append(out.Dims, x)
	}
	if out.Elements > api.MaxPoints {
		return window.Storage{}, api.ErrLarge
	}
	return out, api.OK
}

func (o oracle) slide() (window.Slide, bool) {
	between := o.between()
	if o.isLast() || len(o.fn.Updates) > 0 || len(between) == 0 || between[len(between)-1].Kind != api.Serial {
		return window.Slide{}, false
	}
	count := 0
	out := window.Slide{Loop: len(o.region.Site) - 1}
	for i, d := range o.region.Dims {
		if d.Extent != d.Asked {
			return window.Slide{}, false
		}
		for _, t := range d.Min.Terms {
			if loopOf(t) == out.Loop {
				count++
				out.Dim, out.Step = i, t.Coeff
			}
		}
	}
	if count != 1 || out.Step < 1 || out.Step >= o.region.Dims[out.Dim].Extent {
		return window.Slide{}, false
	}
	return out, true
}

// fresh returns the box of the region, and what is fresh of it.
func (o oracle) fresh(values []int) (api.Box, api.Box) {
	box, err := bound.At(o.region, values)
	if err != api.OK {
		panic(err)
	}
	out := slices.Clone(box)
	if o.slides && values[o.slider.Loop] > 0 {
		r := out[o.slider.Dim]
		out[o.slider.Dim] = api.Range{Min: r.Min + r.Extent - o.slider.Step, Extent: o.slider.Step}
	}
	return box, out
}

// all returns all values of loops, the last one fastest.
func all(loops []bound.Loop) [][]int {
	out := [][]int{nil}
	for _, l := range loops {
		var next [][]int
		for _, values := range out {
			for v := range l.Extent {
				next = append(next, append(slices.Clone(values), v))
			}
		}
		out = next
	}
	return out
}

func points(b api.Box) int {
	n := 1
	for _, r := range b {
		n *= r.Extent
	}
	return n
}

// minOf returns where a dimension of a storage begins.
func minOf(f affine.Form, values []int) int {
	sum := f.Const
	for _, t := range f.Terms {
		sum += t.Coeff * values[loopOf(t)]
	}
	return sum
}

// overwrites stores the coordinates of a dimension one after the other, each with the number of its store.
func (o oracle) overwrites(x window.Dim, dim, factor int) ([]int, bool) {
	type store struct {
		outer string
		place int
	}
	there := map[store]int{}
	for _, values := range all(o.region.Site) {
		outer := ""
		for _, v := range values[:len(o.store)] {
			outer += strconv.Itoa(v) + " "
		}
		low := minOf(x.Min, values)
		box, fresh := o.fresh(values)
		place := func(at int) store { return store{outer, (at - low) % factor} }
		for at := fresh[dim].Min; at < fresh[dim].Min+fresh[dim].Extent; at++ {
			there[place(at)] = at
		}
		for at := box[dim].Min; at < box[dim].Min+box[dim].Extent; at++ {
			if last, ok := there[place(at)]; !ok || last != at {
				return values, true
			}
		}
	}
	return nil, false
}

func text(f affine.Form) string {
	e, _ := affine.Expr(f)
	s, _ := lang.Print(e, nil)
	return s
}

func sameStorage(a, b window.Storage) bool {
	return a.Func == b.Func && a.Elements == b.Elements && slices.Equal(a.Site, b.Site) && slices.EqualFunc(a.Dims, b.Dims, func(d, e window.Dim) bool {
		return d.Extent == e.Extent && d.Fold == e.Fold && text(d.Min) == text(e.Min)
	})
}

// Promises P16.1 to P16.4.

func TestMade(t *testing.T) {
	t.Parallel()
	seen := map[string]int{}
	for seed := range int64(600) {
		p, s, b, m := made(seed)
		for _, f := range p.Funcs {
			o := newOracle(p, s, b, f.Name)
			seen["error "+strconv.Itoa(int(o.err))]++
			site, err := window.StoreSite(p, s, b, f.Name)
			between, err2 := window.Between(p, s, b, f.Name)
			_, err3 := window.Stored(p, s, b, f.Name)
			slide, slides, err4 := window.Sliding(p, s, b, f.Name)
			if o.err != api.OK {
				_, err5 := window.Fresh(p, s, b, f.Name, nil)
				some, all, err6 := window.Saved(p, s, b, f.Name)
				n, err7 := window.LeastFold(p, s, b, f.Name, "nothing")
				values, is, err8 := window.Overwrites(p, s, b, f.Name, "nothing", 0)
				for i, err := range []api.Errno{err, err2, err3, err4, err5, err6, err7, err8} {
					if err != o.err {
						t.Fatal(seed, f.Name, i, err, o.err)
					}
				}
				if len(site)+len(between)+some+all+n+len(values) > 0 || slides || is || slide != (window.Slide{}) {
					t.Fatal(seed, f.Name, "results beside an error")
				}
				continue
			}
			wanted, does := o.slider, o.slides
			if !slices.Equal(site, o.store) || !slices.Equal(between, o.between()) || !does && slide != (window.Slide{}) || slides != does || slides && slide != wanted || err != api.OK || err2 != api.OK || err4 != api.OK {
				t.Fatal(seed, f.Name, site, between, slide, slides, err, err2, err4, o)
			}
			if slides {
				seen["slides"]++
			}
			storage(t, seed, o, seen)
			values(t, seed, o, m, seen)
			for dim := range f.Args {
				folds(t, seed, o, dim, seen)
			}
		}
	}
	for what, least := range map[string]int{"error 0": 400, "error 8": 50, "error 19": 50, "slides": 10, "stored": 400, "folded": 50, "values": 400, "fold 8": 1, "fold 11": 50, "fold 28": 50, "fold 17": 15, "fold 0": 50, "overwritten": 30, "kept": 50} {
		if seen[what] < least {
			t.Error("rare", what, seen)
		}
	}
}

// storage asks for that of a function.
func storage(t *testing.T, seed int64, o oracle, seen map[string]int) {
	want, wantErr := o.stored()
	got, err := window.Stored(o.p, o.s, o.b, o.fn.Name)
	if err != wantErr || !sameStorage(got, want) {
		t.Fatal("Stored", seed, o.fn.Name, got, err, want, wantErr)
	}
	if err != api.OK {
		seen["large"]++
		return
	}
	seen["stored"]++
	isFolded := slices.ContainsFunc(got.Dims, func(d window.Dim) bool { return d.Fold > 0 })
	if isFolded {
		seen["folded"]++
	}
	values := all(o.region.Site)
	if len(values) > 4096 {
		return
	}
	for i, v := range values {
		if i%(1+len(values)/40) > 0 {
			continue
		}
		box, _ := bound.At(o.region, v)
		elements := map[int]bool{}
		for i, point := range pointsOf(box) {
			element, err := window.Index(got, v[:len(got.Site)], point)
			if err != api.OK || element < 0 || element >= got.Elements || !isFolded && elements[element] {
				t.Fatal("Index", seed, o.fn.Name, got, v, point, element, err)
			}
			elements[element] = true
			if i%7 == 0 {
				address(t, got, v[:len(got.Site)], point, element)
			}
		}
	}
}

func pointsOf(b api.Box) [][]int {
	out := [][]int{nil}
	for _, r := range b {
		var next [][]int
		for _, p := range out {
			for i := range r.Extent {
				next = append(next, append(slices.Clone(p), r.Min+i))
			}
		}
		out = next
	}
	return out
}

// address asks whether the address of a point has the value of its index.
func address(t *testing.T, x window.Storage, values, point []int, element int) {
	t.Helper()
	var bindings []expr.Binding
	bind := func(name string, v int) {
		bindings = append(bindings, expr.Binding{Name: name, Value: api.Value{Kind: api.I32, Bits: uint64(uint32(int32(v)))}})
	}
	for i, v := range values {
		bind("s"+strconv.Itoa(i), v)
	}
	var at []api.Expr
	for i, c := range point {
		name := "at" + strconv.Itoa(i)
		e, _ := expr.Var(name)
		at = append(at, e)
		bind(name, c)
	}
	e, err := window.Address(x, at)
	if err != api.OK {
		t.Fatal("Address", x, point, err)
	}
	v, err := expr.Eval(e, bindings)
	if err != api.OK || v[0] != (api.Value{Kind: api.I32, Bits: uint64(element)}) {
		t.Fatal("Address", x, values, point, v, element, err)
	}
}

// values asks what is fresh.
func values(t *testing.T, seed int64, o oracle, m sample.Maker, seen map[string]int) {
	n := 1
	for _, l := range o.region.Site {
		n = min(n*l.Extent, 4097)
	}
	some, every, err := window.Saved(o.p, o.s, o.b, o.fn.Name)
	if n > 4096 {
		seen["many values"]++
		if err != api.ErrLimit || some != 0 || every != 0 {
			t.Fatal("Saved", seed, o.fn.Name, some, every, err)
		}
		return
	}
	seen["values"]++
	wantSome, wantEvery := 0, 0
	l := all(o.region.Site)
	for i, v := range l {
		box, fresh := o.fresh(v)
		wantSome += points(fresh)
		wantEvery += points(box)
		if i%(1+len(l)/10) > 0 {
			continue
		}
		got, err := window.Fresh(o.p, o.s, o.b, o.fn.Name, v)
		if !slices.Equal(got, fresh) || err != api.OK {
			t.Fatal("Fresh", seed, o.fn.Name, v, got, err, fresh)
		}
		if len(v) == 0 || v[len(v)-1] == 0 {
			if !slices.Equal(got, box) {
				t.Fatal("Fresh at 0", seed, o.fn.Name, v, got, box)
			}
			continue
		}
		// what is fresh, and the box of the iteration before, are all of the box
		before := slices.Clone(v)
		before[len(v)-1]--
		old, _ := bound.At(o.region, before)
		for i, r := range box {
			for at := r.Min; at < r.Min+r.Extent; at++ {
				if !has(got[i], at) && !has(old[i], at) {
					t.Fatal("not there", seed, o.fn.Name, v, got, old, box)
				}
			}
		}
	}
	if some != wantSome || every != wantEvery || err != api.OK {
		t.Fatal("Saved", seed, o.fn.Name, some, every, err, wantSome, wantEvery)
	}
}

func has(r api.Range, at int) bool { return at >= r.Min && at < r.Min+r.Extent }

// folds asks about the folds of a dimension.
func folds(t *testing.T, seed int64, o oracle, dim int, seen map[string]int) {
	var want api.Errno
	between := o.between()
	_, large := o.stored()
	switch {
	case o.isLast():
		want = api.ErrKind
	case len(between) == 0:
		want = api.ErrState
	case slices.ContainsFunc(between, func(c window.Crossed) bool { return c.Kind != api.Serial }):
		want = api.ErrRace
	default:
		want = large
	}
	seen["fold "+strconv.Itoa(int(want))]++
	arg := o.fn.Args[dim]
	n, err := window.LeastFold(o.p, o.s, o.b, o.fn.Name, arg)
	if err != want || err != api.OK && n != 0 {
		t.Fatal("LeastFold", seed, o.fn.Name, arg, n, err, want)
	}
	l, is, err := window.Overwrites(o.p, o.s, o.b, o.fn.Name, arg, 0)
	if err != want && (want != api.OK || err != api.ErrRange) || is || len(l) > 0 {
		t.Fatal("Overwrites", seed, o.fn.Name, arg, l, is, err, want)
	}
	if _, err := window.LeastFold(o.p, o.s, o.b, o.fn.Name, "none"); err != api.ErrUnknown {
		t.Fatal("LeastFold of nothing", seed, o.fn.Name, err)
	}
	seen["fold 8"]++
	if want != api.OK {
		return
	}
	if n != o.region.Dims[dim].Extent {
		t.Fatal("LeastFold", seed, o.fn.Name, arg, n, o.region.Dims[dim])
	}
	values := all(o.region.Site)
	if len(values) > 300 {
		return
	}
	x, _ := o.stored()
	for _, factor := range slices.Sorted(maps.Keys(map[int]bool{1: true, max(1, n-1): true, min(n, 64): true, min(n+1, 64): true, 64: true})) {
		wanted, does := o.overwrites(x.Dims[dim], dim, factor)
		l, is, err := window.Overwrites(o.p, o.s, o.b, o.fn.Name, arg, factor)
		if !slices.Equal(l, wanted) || is != does || err != api.OK || does != (factor < n && len(values) > 0) {
			t.Fatal("Overwrites", seed, o.fn.Name, arg, factor, l, is, err, wanted, does, n)
		}
		if is {
			seen["overwritten"]++
		} else {
			seen["kept"]++
		}
	}
}
