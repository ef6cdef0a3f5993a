package pipe_test

import (
	"fmt"
	"math"
	"math/rand"
	"slices"
	"strings"
	"testing"

	"halation/api"
	"halation/expr"
	"halation/num"
	"halation/pipe"
)

// Promise P5.3.

func value(kind int, bits uint64) api.Value { return api.Value{Kind: kind, Bits: bits} }

// params returns values for the parameters of a made or an example pipeline.
func params(p api.Pipeline, seed int64) []api.Value {
	r := rand.New(rand.NewSource(seed))
	var out []api.Value
	for _, x := range p.Params {
		n := x.Low + r.Int63n(x.High-x.Low+1)
		v, err := num.Cast(x.Kind, value(api.I64, uint64(n)))
		if err != api.OK {
			panic(err)
		}
		out = append(out, v)
	}
	return out
}

func TestRenamed(t *testing.T) {
	p := larger()
	long := strings.Repeat("n", 25)
	for i, x := range []struct {
		from, to string
		e        api.Errno
	}{
		{"a", "c", api.OK}, {"k", "x", api.OK}, {"sum", "larger", api.OK}, {"out", long[1:], api.OK},
		{"", "", api.ErrName}, {"9", "g", api.ErrName}, {long, "g", api.ErrName}, {"no", "", api.ErrUnknown}, {"larger", "g", api.ErrUnknown}, {"x", "q", api.ErrUnknown}, {"r", "q", api.ErrUnknown}, {"a", "", api.ErrName}, {"a", "a b", api.ErrName}, {"a", long, api.ErrName},
		{"a", "a", api.ErrTwice}, {"a", "b", api.ErrTwice}, {"a", "k", api.ErrTwice}, {"k", "out", api.ErrTwice}, {"sum", "sum", api.ErrTwice},
	} {
		out, err := pipe.Renamed(p, x.from, x.to)
		if err != x.e || err != api.OK && !equal(out, api.Pipeline{}) {
			t.Error("Renamed", i, err)
		}
	}
	out, _ := pipe.Renamed(p, "sum", "x") // a name that variables have, too
	want := copied(p)
	want.Funcs[2].Name = "x"
	for _, e := range []api.Expr{want.Funcs[2].Updates[0].Value, want.Funcs[2].Updates[1].Value, want.Funcs[3].Value} {
		for i := range e {
			if e[i].Op == api.ECall && e[i].Name == "sum" {
				e[i].Name = "x"
			}
		}
	}
	if !equal(out, want) {
		t.Error("only calls of the function", out)
	}
}

func TestRenamedMade(t *testing.T) {
	for seed := range int64(madePipelines) {
		p := makePipeline(seed)
		var names []string
		for _, in := range p.Inputs {
			names = append(names, in.Name)
		}
		for _, x := range p.Params {
			names = append(names, x.Name)
		}
		for _, f := range p.Funcs {
			names = append(names, f.Name)
		}
		kept := copied(p)
		for _, name := range names {
			there, err := pipe.Renamed(p, name, "other")
			back, err2 := pipe.Renamed(there, "other", name)
			_, bad := pipe.Check(there)
			if err != api.OK || err2 != api.OK || bad != api.OK || !equal(back, p) {
				t.Fatal("renamed there and back", seed, name, err, err2, bad)
			}
			if sort, at, err := pipe.Find(p, name); err == api.OK {
				sort2, at2, _ := pipe.Find(there, "other")
				_, _, gone := pipe.Find(there, name)
				if sort != sort2 || at != at2 || gone != api.ErrUnknown {
					t.Fatal("Find", seed, name, sort2, at2, gone)
				}
			}
			spoilAll(&there)
			spoilAll(&back)
			if !equal(p, kept) {
				t.Fatal("shared memory", seed)
			}
		}
	}
}

// tree is an expression without places.
type tree struct {
	node api.Node
	kids []tree
}

func treeOf(e api.Expr, at int) tree {
	out := tree{node: e[at]}
	for _, kid := range e[at].Kids {
		out.kids = append(out.kids, treeOf(e, kid))
	}
	return out
}

func (t tree) nodes(before api.Expr) api.Expr {
	n := t.node
	n.Kids = nil
	for _, kid := range t.kids {
		before = kid.nodes(before)
		n.Kids = append(n.Kids, len(before)-1)
	}
	return append(before, n)
}

func (t tree) size() int {
	out := 1
	for _, kid := range t.kids {
		out += kid.size()
	}
	return min(out, 1<<30)
}

// with returns a tree in which each call of a function has been replaced, those in its coordinates first.
func (t tree) with(f api.Func) tree {
	out := tree{node: t.node}
	for _, kid := range t.kids {
		out.kids = append(out.kids, kid.with(f))
	}
	if t.node.Op == api.ECall && t.node.Name == f.Name {
		return treeOf(f.Value, len(f.Value)-1).put(f.Args, out.kids)
	}
	return out
}

func (t tree) put(args []string, by []tree) tree {
	if t.node.Op == api.EVar {
		return by[slices.Index(args, t.node.Name)]
	}
	out := tree{node: t.node}
	for _, kid := range t.kids {
		out.kids = append(out.kids, kid.put(args, by))
	}
	return out
}

// inlined is Inline for a function that may be inlined, in the document's words.
func inlined(p api.Pipeline, f int) (api.Pipeline, api.Errno) {
	out, err := copied(p), api.OK
	replace := func(e api.Expr) api.Expr {
		if len(e) == 0 {
			return nil
		}
		new := treeOf(e, len(e)-1).with(p.Funcs[f])
		if new.size() > api.MaxNodes {
			err = api.ErrMany
			return nil
		}
		return new.nodes(nil)
	}
	for i := range out.Funcs {
		g := &out.Funcs[i]
		g.Value = replace(g.Value)
		for j := range g.Updates {
			u := &g.Updates[j]
			u.Value, u.Where = replace(u.Value), replace(u.Where)
			for k := range u.Left {
				u.Left[k] = replace(u.Left[k])
			}
		}
	}
	out.Funcs = slices.Delete(out.Funcs, f, f+1)
	return out, err
}

func TestInlineMade(t *testing.T) {
	compared := 0
	for seed := range int64(2 * madePipelines) {
		p := makePipeline(seed)
		kept, last := copied(p), len(p.Funcs)-1
		for f, fn := range p.Funcs {
			out, err := pipe.Inline(p, f)
			if f == last || len(fn.Updates) > 0 {
				want := api.ErrState
				if f == last {
					want = api.ErrKind
				}
				if err != want || !equal(out, api.Pipeline{}) {
					t.Fatal("Inline", seed, f, err)
				}
				continue
			}
			want, wantErr := inlined(p, f)
			if err != wantErr || err == api.OK && !equal(out, want) {
				t.Fatal("Inline", seed, f, err, wantErr)
			}
			byName, err2 := pipe.Inlined(p, []string{fn.Name})
			if err2 != err || !equal(byName, out) {
				t.Fatal("Inlined", seed, f, err2)
			}
			if err != api.OK {
				continue
			}
			checkInlined(t, seed, p, out, fn)
			a, b := output(p, p.Funcs[last].Name, params(p, seed)), output(out, p.Funcs[last].Name, params(p, seed))
			if a != nil && b != nil {
				compared++
				if !slices.Equal(a, b) {
					t.Fatal("another meaning", seed, f, a, b)
				}
			}
			spoilAll(&out)
			spoilAll(&byName)
			if !equal(p, kept) {
				t.Fatal("shared memory", seed)
			}
		}
	}
	if compared < 100 {
		t.Error("too few comparisons", compared)
	}
}

// checkInlined looks at what P5.4 says of a pipeline in which a function has been inlined.
func checkInlined(t *testing.T, seed int64, p, out api.Pipeline, fn api.Func) {
	t.Helper()
	if _, err := pipe.Check(out); err != api.OK || len(out.Funcs) != len(p.Funcs)-1 || !slices.Equal(out.Inputs, p.Inputs) || !slices.Equal(out.Params, p.Params) {
		t.Fatal("inlined it is right, with one function less", seed, err)
	}
	rest := slices.DeleteFunc(slices.Clone(p.Funcs), func(f api.Func) bool { return f.Name == fn.Name })
	for i, f := range out.Funcs {
		if namedIn(f, api.ECall, fn.Name) || f.Name != rest[i].Name || f.Kind != rest[i].Kind || !slices.Equal(f.Args, rest[i].Args) {
			t.Fatal("a call is left, or a function is another one", seed, f)
		}
	}
	seen := map[*int]bool{} // kids of different nodes are different memory
	for _, f := range out.Funcs {
		eachNode(f, func(n api.Node) {
			if len(n.Kids) > 0 {
				if seen[&n.Kids[0]] {
					t.Fatal("two nodes share memory", seed)
				}
				seen[&n.Kids[0]] = true
			}
		})
	}
}

func TestInlineErrors(t *testing.T) {
	p := example()
	updated := copied(p)
	updated.Funcs[0].Updates = []api.Update{update(p, []string{"x"}, "1", "")}
	for i, x := range []struct {
		p api.Pipeline
		f int
		e api.Errno
	}{
		{p, 0, api.OK}, {p, 2, api.ErrUnknown}, {p, -1, api.ErrUnknown}, {p, 1 << 62, api.ErrUnknown}, {p, 1, api.ErrKind}, {updated, 0, api.ErrState}, {updated, 1, api.ErrKind},
	} {
		if _, err := pipe.Inline(x.p, x.f); err != x.e {
			t.Error("Inline", i, err)
		}
	}
	three := larger()
	for i, x := range []struct {
		p     api.Pipeline
		names []string
		e     api.Errno
	}{
		{three, nil, api.OK}, {three, []string{"g", "idle"}, api.OK}, {three, []string{"idle", "g"}, api.OK}, {three, slices.Repeat([]string{"g"}, 13), api.ErrMany}, {three, make([]string, 13), api.ErrMany}, {three, slices.Repeat([]string{"g"}, 12), api.ErrUnknown},
		{three, []string{"g", "g"}, api.ErrUnknown}, {three, []string{"a"}, api.ErrUnknown}, {three, []string{"k"}, api.ErrUnknown}, {three, []string{"x"}, api.ErrUnknown}, {three, []string{""}, api.ErrName}, {three, []string{"g", "9", "out"}, api.ErrName}, {three, []string{"out", "9"}, api.ErrKind}, {three, []string{"sum", "9"}, api.ErrState}, {three, []string{"g", "sum", "9"}, api.ErrState}, {three, []string{"no", "9"}, api.ErrUnknown},
	} {
		out, err := pipe.Inlined(x.p, x.names)
		if err != x.e || err != api.OK && !equal(out, api.Pipeline{}) {
			t.Error("Inlined", i, err)
		}
		if err == api.OK && len(out.Funcs) != len(x.p.Funcs)-len(x.names) {
			t.Error("Inlined", i, len(out.Funcs))
		}
	}
	same, _ := pipe.Inlined(three, nil)
	if kept := copied(three); !equal(same, kept) {
		t.Error("nothing inlined", same)
	} else if spoilAll(&same); !equal(three, kept) {
		t.Error("Inlined shares memory")
	}
}

// chained returns f, whose value is a text, and out with another one.
func chained(args []string, f, out string) api.Pipeline {
	p := api.Pipeline{Name: "p"}
	p.Funcs = append(p.Funcs, api.Func{Name: "f", Args: args, Kind: api.I32, Value: exprOf(p, f)})
	p.Funcs = append(p.Funcs, api.Func{Name: "out", Args: []string{"x"}, Kind: api.I32, Value: exprOf(p, out)})
	return p
}

// nested returns f of f of .. of x, with a rest of coordinates behind it.
func nested(depth int, rest string) string {
	return strings.Repeat("f(", depth) + "x" + strings.Repeat(rest+")", depth)
}

// TestInlineSizes inlines calls in one another, whose coordinates are put in several times or not at all.
func TestInlineSizes(t *testing.T) {
	for i, x := range []struct {
		p    api.Pipeline
		size int
		e    api.Errno
	}{
		{chained([]string{"x"}, "x", nested(255, "")), 1, api.OK},
		{chained([]string{"x"}, "5", nested(255, "")), 1, api.OK},
		{chained([]string{"x"}, "!x", nested(255, "")), 256, api.OK},
		{chained([]string{"x"}, "x + x", nested(7, "")), 255, api.OK},
		{chained([]string{"x"}, "x + x", nested(8, "")), 0, api.ErrMany},
		{chained([]string{"x"}, "x + x", nested(255, "")), 0, api.ErrMany},
		{chained([]string{"x"}, "x + (x + x) * x", nested(255, "")), 0, api.ErrMany},
		{chained([]string{"x"}, "x + 1", "!"+nested(127, "")), 256, api.OK},
		{chained([]string{"x"}, "x + 1", "!"+nested(128, "")), 0, api.ErrMany},
		{chained([]string{"x", "y"}, "y + y", nested(120, ", 1")), 3, api.OK}, // what is left out would be too large
		{chained([]string{"x", "y"}, "x + x", nested(120, ", 1")), 0, api.ErrMany},
		{chained([]string{"x", "y"}, "y + y", "f("+nested(100, ", x")+", "+nested(6, ", 1")+")"), 7, api.OK},
		{chained([]string{"x"}, strings.Repeat("x + ", 127)+"x", "f(f(x))"), 0, api.ErrMany},
		{chained([]string{"x"}, strings.Repeat("!", 250)+"x", strings.Repeat("f(", 250)+"x"+strings.Repeat(")", 250)), 0, api.ErrMany},
	} {
		out, err := pipe.Inline(x.p, 0)
		if err != x.e {
			t.Error("Inline", i, err)
			continue
		}
		if size, _ := pipe.Size(out); size != x.size {
			t.Error("Inline", i, size)
		}
	}
	p := chained([]string{"x", "y"}, "x - y", "f(f(1, x), f(x, 2))") // all coordinates at once
	out, err := pipe.Inline(p, 0)
	if err != api.OK || !expr.Same(out.Funcs[0].Value, exprOf(p, "(1 - x) - (x - 2)")) {
		t.Error("Inline", out, err)
	}
	p = chained([]string{"x", "y"}, "x - y", "f(x + 1, x)")
	p.Funcs[0].Args = []string{"y", "x"} // f(y, x) is x - y
	out, err = pipe.Inline(p, 0)
	if err != api.OK || !expr.Same(out.Funcs[0].Value, exprOf(p, "x - (x + 1)")) {
		t.Error("Inline", out, err)
	}
}

func TestPutErrors(t *testing.T) {
	p := api.Pipeline{Name: "p", Params: []api.Param{{Name: "on", Low: 1, High: 1}, {Name: "n", Kind: api.I8, Low: -3, High: 5}, {Name: "u", Kind: api.U64, Low: 7, High: math.MaxInt64}, {Name: "s", Kind: api.F32, Low: -2, High: 3}}}
	p.Funcs = []api.Func{{Name: "out", Args: []string{"x"}, Kind: api.F32, Value: exprOf(p, "select(@on, f32(@n) + f32(@u), @s)")}}
	right := []api.Value{value(api.Bool, 1), value(api.I8, 0xfd), value(api.U64, 7), value(api.F32, 0)}
	with := func(at int, v api.Value) []api.Value {
		out := slices.Clone(right)
		out[at] = v
		return out
	}
	float := func(x float32) api.Value { return value(api.F32, uint64(math.Float32bits(x))) }
	for i, x := range []struct {
		l []api.Value
		e api.Errno
	}{
		{right, api.OK}, {nil, api.ErrShape}, {right[:3], api.ErrShape}, {append(slices.Clone(right), value(11, 0)), api.ErrShape}, {append([]api.Value{value(11, 0)}, right...), api.ErrShape},
		{with(0, value(11, 0)), api.ErrKind}, {with(0, value(api.U8, 256)), api.ErrForm}, {with(0, value(api.U8, 1)), api.ErrType}, {with(0, value(api.Bool, 0)), api.ErrRange},
		{with(1, value(api.I8, 0xfc)), api.ErrRange}, {with(1, value(api.I8, 5)), api.OK}, {with(1, value(api.I8, 6)), api.ErrRange}, {with(1, value(api.U8, 5)), api.ErrType}, {with(1, value(api.I8, 1<<8)), api.ErrForm},
		{with(2, value(api.U64, 6)), api.ErrRange}, {with(2, value(api.U64, math.MaxInt64)), api.OK}, {with(2, value(api.U64, 1<<63)), api.ErrRange}, {with(2, value(api.U64, math.MaxUint64)), api.ErrRange},
		{with(3, float(-2)), api.OK}, {with(3, float(3)), api.OK}, {with(3, float(-2.0000002)), api.ErrRange}, {with(3, float(3.0000002)), api.ErrRange}, {with(3, float(2.5)), api.OK}, {with(3, float(math.MaxFloat32)), api.ErrRange}, {with(3, value(api.F32, 1<<31)), api.ErrForm}, {with(3, value(api.C64, 0)), api.ErrType},
		{[]api.Value{value(api.Bool, 0), value(11, 0), {}, {}}, api.ErrRange}, {[]api.Value{value(api.Bool, 1), value(11, 0), {}, {}}, api.ErrKind},
	} {
		out, err := pipe.Put(p, x.l)
		if err != x.e || err != api.OK && !equal(out, api.Pipeline{}) {
			t.Error("Put", i, err)
		}
		if err == api.OK && !expr.Same(out.Funcs[0].Value, api.Expr{
			{Op: api.EConst, Kind: api.Bool, Lanes: 1, Bits: x.l[0].Bits}, {Op: api.EConst, Kind: api.I8, Lanes: 1, Bits: x.l[1].Bits}, {Op: api.ECast, Kind: api.F32, Lanes: 1, Kids: []int{1}}, {Op: api.EConst, Kind: api.U64, Lanes: 1, Bits: x.l[2].Bits}, {Op: api.ECast, Kind: api.F32, Lanes: 1, Kids: []int{3}},
			{Op: api.EAdd, Kind: api.F32, Lanes: 1, Kids: []int{2, 4}}, {Op: api.EConst, Kind: api.F32, Lanes: 1, Bits: x.l[3].Bits}, {Op: api.ESelect, Kind: api.F32, Lanes: 1, Kids: []int{0, 5, 6}},
		}) {
			t.Error("Put", i, out)
		}
	}
	bare := chained([]string{"x"}, "x", "f(x)")
	if out, err := pipe.Put(bare, nil); err != api.OK || !equal(out, bare) {
		t.Error("no parameters", out, err)
	}
}

func TestPutMade(t *testing.T) {
	for seed := range int64(madePipelines) {
		p := makePipeline(seed)
		kept, values := copied(p), params(p, seed)
		out, err := pipe.Put(p, values)
		if _, bad := pipe.Check(out); err != api.OK || bad != api.OK || len(out.Params) != 0 {
			t.Fatal("Put", seed, err, bad)
		}
		before, _ := pipe.Size(p)
		after, _ := pipe.Size(out)
		for _, f := range out.Funcs {
			eachNode(f, func(n api.Node) {
				if n.Op == api.EParam {
					t.Fatal("a parameter is left", seed, fmt.Sprint(n))
				}
			})
		}
		name := p.Funcs[len(p.Funcs)-1].Name
		if a, b := output(p, name, values), output(out, name, nil); before != after || !slices.Equal(a, b) {
			t.Fatal("another meaning", seed, a, b)
		}
		spoilAll(&out)
		if !equal(p, kept) {
			t.Fatal("shared memory", seed)
		}
	}
}

// Promise P5.4.

func TestLaws(t *testing.T) {
	for seed := range int64(madePipelines) {
		p := makePipeline(seed)
		shorter := p
		shorter.Funcs = p.Funcs[:len(p.Funcs)-1]
		_, err := pipe.Check(shorter)
		if len(shorter.Funcs) == 0 && err != api.ErrEmpty || len(shorter.Funcs) > 0 && err != api.OK {
			t.Fatal("without its output", seed, err)
		}
		once, e1 := pipe.Prune(p)
		twice, e2 := pipe.Prune(once)
		dead, e3 := pipe.Dead(once)
		if e1+e2+e3 != api.OK || !equal(once, twice) || len(dead) > 0 {
			t.Fatal("pruned twice", seed, dead)
		}
		name, values := p.Funcs[len(p.Funcs)-1].Name, params(p, seed)
		if a, b := output(p, name, values), output(once, name, values); !slices.Equal(a, b) {
			t.Fatal("another meaning", seed, a, b)
		}
	}
}

func TestExample(t *testing.T) {
	p := example()
	in, e1 := pipe.Inline(p, 0)
	left := in.Funcs[0]
	if e1 != api.OK || !expr.Same(left.Value, exprOf(p, "(i32(in[x]) + i32(in[x + 1])) * @gain")) || !expr.Same(left.Updates[0].Value, exprOf(p, "out(x) + (i32(in[x + r]) + i32(in[(x + r) + 1]))")) {
		t.Error("Inline", in, e1)
	}
	put, e2 := pipe.Put(p, []api.Value{value(api.I32, 3)})
	_, e3 := pipe.Put(p, []api.Value{value(api.I32, 10)})
	if e2 != api.OK || !expr.Same(put.Funcs[1].Value, exprOf(p, "blur(x) * 3")) || e3 != api.ErrRange {
		t.Error("Put", put, e2, e3)
	}
}
