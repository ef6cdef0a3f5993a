package simp_test

import (
	"fmt"
	"math"
	"slices"
	"strings"
	"testing"

	"halation/api"
	"halation/expr"
	"halation/num"
	"halation/rule"
	"halation/simp"
	"halation/span"
)

// becomes returns what a node's expression becomes by a step, in the document's words, if it is one there.
func becomes(e api.Expr, l []span.Known, s simp.Step) (api.Expr, bool) {
	n := e[s.Node]
	if n.Lanes != 1 || n.Op == api.EConst {
		return nil, false
	}
	var v api.Value
	switch s.Rule {
	case "fold":
		op := n.Op
		if !(op >= api.EAdd && op <= api.ELe || op == api.ENot || op == api.ECast || op == api.ESat || op == api.ESelect) {
			return nil, false
		}
		for _, kid := range n.Kids {
			if e[kid].Op != api.EConst {
				return nil, false
			}
		}
		sub, _ := expr.Sub(e, s.Node)
		values, _ := expr.Eval(sub, nil)
		v = values[0]
	case "known":
		facts, _ := span.Nodes(e, l)
		f := facts[s.Node]
		if !f.Is || f.Span.Low != f.Span.High {
			return nil, false
		}
		v, _ = num.Wrap(n.Kind, int64(f.Span.Low))
	default:
		for _, r := range rules() {
			if r.Name == s.Rule {
				out, ok, _ := rule.Apply(r, e, s.Node)
				return out, ok
			}
		}
		return nil, false
	}
	c, _ := expr.Const(v)
	out, _ := expr.Replace(e, s.Node, c)
	return out, true
}

// namesAt returns the names of the rules whose left sides have the Op of a node as their last one.
func namesAt(e api.Expr, node int) []string {
	var out []string
	for _, r := range rules() {
		if r.Left[len(r.Left)-1].Op == e[node].Op {
			out = append(out, r.Name)
		}
	}
	return out
}

// next returns the next step.
func next(e api.Expr, l []span.Known) (simp.Step, bool) {
	for _, name := range []string{"fold", "known", ""} {
		for node := range e {
			names := []string{name}
			if name == "" {
				names = namesAt(e, node)
			}
			for _, name := range names {
				s := simp.Step{Rule: name, Node: node}
				if _, ok := becomes(e, l, s); ok {
					return s, true
				}
			}
		}
	}
	return simp.Step{}, false
}

func steps(s string) []simp.Step {
	var out []simp.Step
	for field := range strings.FieldsSeq(s) {
		name, node, _ := strings.Cut(field, ":")
		n := 0
		fmt.Sscan(node, &n)
		out = append(out, simp.Step{Rule: name, Node: n})
	}
	return out
}

func exampleKnown() []span.Known {
	return []span.Known{variable("i", 0, 9), variable("one", 1, 1), variable("far", 1<<35, 1<<36), {Op: api.EParam, Name: "p", Span: of(300, 300)}, {Op: api.ECall, Name: "f", Span: of(7, 7)}, {Op: api.EImage, Name: "f", Span: of(8, 8)}, {Op: api.ELoad, Name: "f", Span: of(9, 9)}}
}

// Promises P14.1 and P14.2.

func TestExamples(t *testing.T) {
	for _, x := range []struct{ e, want, steps string }{
		{"i + 3 + 4", "i + 7", "add_add:4"},
		{"5 + (i - i)", "5", "known:3 fold:2"},
		{"select(i < 10, i, 7)", "i", "known:2 select_true:3"},
		{"i / 16", "0", "known:2"}, {"j / 16", "j / 16", ""},
		{"5 + j * 1", "j + 5", "mul_one:3 add_left:2"}, {"min(1 + 2, j)", "min(j, 3)", "fold:2 min_left:2"}, {"5", "5", ""}, {"i", "i", ""},
		{"one", "1", "known:0"}, {"far", "far", ""}, {"j - one", "j + -1", "known:1 sub_const:2"}, {"one + one", "2", "known:0 known:1 fold:2"},
		{"@p.u16", "300u16", "known:0"}, {"@p.u8", "@p.u8", ""}, {"@p.f32", "@p.f32", ""}, {"@p.u64", "@p.u64", ""}, {"@one.u8", "@one.u8", ""}, {"p", "p", ""},
		{"f.u8(j, k)", "7u8", "known:2"}, {"f.u8[j]", "8u8", "known:1"}, {"f.u8{j}", "9u8", "known:1"}, {"f.u64(j)", "f.u64(j)", ""}, {"g.u8(i - i)", "g.u8(0)", "known:2"}, {"f.i64(1 + 1)", "f.i64(2)", "fold:2"},
		{"1p0f32 + 1p0f32", "1p1f32", "fold:2"}, {"@q.f32 - @q.f32", "0p0f32", "sub_same:2"}, {"c64(1p0,0p0) * c64(0p0,1p0)", "c64(0p0,1p0)", "fold:2"}, {"!3u8", "252u8", "fold:1"}, {"sat_u8(300)", "255u8", "fold:1"}, {"u8(300)", "44u8", "fold:1"}, {"select(true, 1u64, 2u64)", "1u64", "fold:3"}, {"c64(3)", "c64(3p0,0p0)", "fold:1"},
		{"select(true, 1, j)", "1", "known:3"}, {"select(true, j, 1)", "j", "select_true:3"}, {"1u64 + @q.u64 + 2u64", "@q.u64 + 3u64", "add_left:2 add_add:4"},
		{"broadcast(1 + 1, 3)", "broadcast(2, 3)", "fold:2"}, {"broadcast(one, 3) + broadcast(0, 3)", "broadcast(1, 3) + broadcast(0, 3)", "known:0"}, {"broadcast(3, 3)", "broadcast(3, 3)", ""}, {"ramp(j + 0, 1, 3)", "ramp(j, 1, 3)", "add_zero:2"},
		{"reduce_add(broadcast(3, 4))", "12", "known:2"}, {"reduce_add(broadcast(3u64, 4))", "reduce_add(broadcast(3u64, 4))", ""}, {"shuffle(broadcast(3, 4), 1)", "3", "known:2"}, {"shuffle(broadcast(3, 4), 1, 2)", "shuffle(broadcast(3, 4), 1, 2)", ""}, {"shuffle(3u64, 0)", "shuffle(3u64, 0)", ""},
		// the first node of the first kind of step
		{"(j + 0) * (1 + 2)", "j * 3", "fold:5 add_zero:2"}, {"(j + 0) * (i - i)", "0", "known:5 known:4"}, {"(i - i) * (1 + 2)", "0", "fold:5 known:2 fold:2"}, {"(j + 0) * (k + 0)", "j * k", "add_zero:2 add_zero:3"},
		{"!(j == k) & (i < 10)", "j != k", "known:6 not_eq:3 and_true:4"}, {"0 + j", "j", "add_left:2 add_zero:2"}, {"3 - j - 4", "3 - j + -4", "sub_const:4"}, {"j - 3 + 3", "j", "sub_const:2 add_add:4 add_zero:2"}, {"j - k + k", "j", "sub_add:4"}, {"j - 3 - 4", "j + -7", "sub_const:2 sub_const:4 add_add:4"},
		{"j * k - j * k", "0", "known:6"}, {"@q.u64 * 3u64 - @q.u64 * 3u64", "0u64", "sub_same:6"}, {"max(min(j, 3), 8)", "8", "known:4"}, {"max(min(@q.i64, 3i64), 8i64)", "8i64", "max_of_min:4"},
	} {
		e, want := parsed(t, x.e), steps(x.steps)
		out, log, err := simp.Simplify(e, exampleKnown())
		if text(out) != x.want || !slices.Equal(log, want) || err != api.OK {
			t.Error("Simplify", x.e, text(out), log, err)
		}
		back, at, err := simp.Replay(e, exampleKnown(), want)
		if text(back) != x.want || at != 0 || err != api.OK {
			t.Error("Replay", x.e, text(back), at, err)
		}
		s, ok, err := simp.Next(e, exampleKnown())
		if ok != (len(want) > 0) || ok && s != want[0] || !ok && s != (simp.Step{}) || err != api.OK {
			t.Error("Next", x.e, s, ok, err)
		}
		if normal, err := simp.IsNormal(e, exampleKnown()); normal == ok || err != api.OK {
			t.Error("IsNormal", x.e, normal, err)
		}
		if normal, err := simp.IsNormal(out, exampleKnown()); !normal || err != api.OK {
			t.Error("IsNormal of what is simplified", x.e, normal, err)
		}
		if same, err := simp.Equal(e, parsed(t, x.want), exampleKnown()); !same || err != api.OK {
			t.Error("Equal", x.e, same, err)
		}
	}
}

func TestDo(t *testing.T) {
	for i, x := range []struct {
		e    string
		s    simp.Step
		want string
		err  api.Errno
	}{
		{"(i - i) + 0", simp.Step{Rule: "add_zero", Node: 4}, "i - i", api.OK}, {"(i - i) + 0", simp.Step{Rule: "sub_same", Node: 2}, "0 + 0", api.OK}, {"(i - i) + 0", simp.Step{Rule: "known", Node: 4}, "0", api.OK}, {"(i - i) + 0", simp.Step{Rule: "known", Node: 2}, "0 + 0", api.OK},
		{"(i - i) + 0", simp.Step{Rule: "fold", Node: 4}, "", api.ErrProof}, {"(i - i) + 0", simp.Step{Rule: "known", Node: 0}, "", api.ErrProof}, {"(i - i) + 0", simp.Step{Rule: "known", Node: 3}, "", api.ErrProof}, {"(i - i) + 0", simp.Step{Rule: "fold", Node: 3}, "", api.ErrProof},
		{"(i - i) + 0", simp.Step{Rule: "none", Node: 0}, "", api.ErrUnknown}, {"(i - i) + 0", simp.Step{Rule: "", Node: 4}, "", api.ErrUnknown}, {"(i - i) + 0", simp.Step{Rule: "Fold", Node: 4}, "", api.ErrUnknown},
		{"(i - i) + 0", simp.Step{Rule: "fold", Node: 5}, "", api.ErrUnknown}, {"(i - i) + 0", simp.Step{Rule: "fold", Node: 6}, "", api.ErrUnknown}, {"(i - i) + 0", simp.Step{Rule: "known", Node: math.MaxInt}, "", api.ErrUnknown}, {"(i - i) + 0", simp.Step{Rule: "known", Node: math.MinInt}, "", api.ErrUnknown}, {"(i - i) + 0", simp.Step{Rule: "add_zero", Node: -1}, "", api.ErrUnknown}, {"(i - i) + 0", simp.Step{Rule: "sub_same", Node: 4}, "", api.ErrProof}, {"(i - i) + 0", simp.Step{Rule: "sat_same", Node: 4}, "", api.ErrProof},
		{"sat_i32(j)", simp.Step{Rule: "sat_same", Node: 1}, "j", api.OK}, {"sat_i32(j)", simp.Step{Rule: "cast_same", Node: 1}, "", api.ErrProof},
		{"broadcast(3, 2) + broadcast(3, 2)", simp.Step{Rule: "fold", Node: 4}, "", api.ErrProof}, {"broadcast(3, 2) - broadcast(3, 2)", simp.Step{Rule: "known", Node: 4}, "", api.ErrProof}, {"broadcast(3, 2) - broadcast(3, 2)", simp.Step{Rule: "sub_same", Node: 4}, "", api.ErrProof}, {"shuffle(3, 0)", simp.Step{Rule: "fold", Node: 1}, "", api.ErrProof}, {"g.u8(3)", simp.Step{Rule: "fold", Node: 1}, "", api.ErrProof},
		{"j - j - 3", simp.Step{Rule: "sub_const", Node: 4}, "j - j + -3", api.OK}, {"3 - 3", simp.Step{Rule: "sub_same", Node: 2}, "0", api.OK}, {"3 - 3", simp.Step{Rule: "sub_const", Node: 2}, "3 + -3", api.OK}, {"3 - 3", simp.Step{Rule: "fold", Node: 2}, "0", api.OK}, {"3 - 3", simp.Step{Rule: "known", Node: 2}, "0", api.OK},
	} {
		out, err := simp.Do(parsed(t, x.e), exampleKnown(), x.s)
		if err != x.err || err == api.OK && text(out) != x.want || err != api.OK && len(out) > 0 {
			t.Error(i, x.e, x.s, text(out), err)
		}
	}
}

func TestReplay(t *testing.T) {
	e := parsed(t, "(i - i) + 0")
	for i, x := range []struct {
		steps string
		want  string
		at    int
		err   api.Errno
	}{
		{"", "i - i + 0", 0, api.OK}, {"add_zero:4 fold:2", "", 1, api.ErrProof}, {"add_zero:4 sub_same:2", "0", 0, api.OK}, {"sub_same:2 fold:2", "0", 0, api.OK}, {"add_zero:4 sub_same:2 fold:0", "", 2, api.ErrProof}, {"add_zero:4 sub_same:2 known:1", "", 2, api.ErrUnknown},
		{"none:4 fold:9", "", 0, api.ErrUnknown}, {"known:0", "", 0, api.ErrProof},
	} {
		out, at, err := simp.Replay(e, nil, steps(x.steps))
		if at != x.at || err != x.err || err == api.OK && text(out) != x.want || err != api.OK && len(out) > 0 {
			t.Error(i, text(out), at, err)
		}
	}
	if out, at, err := simp.Replay(e, nil, make([]simp.Step, 2001)); len(out) > 0 || at != 0 || err != api.ErrMany {
		t.Error("many", at, err)
	}
	if out, at, err := simp.Replay(e, nil, make([]simp.Step, 2000)); len(out) > 0 || at != 0 || err != api.ErrUnknown {
		t.Error("not too many", at, err)
	}
}

func TestErrors(t *testing.T) {
	x := parsed(t, "i + 0")
	bad := []span.Known{variable("i", 1, 0)}
	for i, c := range []struct {
		e    api.Expr
		l    []span.Known
		want api.Errno
	}{
		{nil, bad, api.ErrEmpty}, {make(api.Expr, 257), bad, api.ErrMany}, {x, bad, api.ErrOrder}, {x, make([]span.Known, 257), api.ErrMany}, {x, make([]span.Known, 256), api.ErrKind}, {api.Expr{{Op: -1}}, nil, api.ErrKind},
		{x, []span.Known{variable("i", 0, 1), variable("i", 0, 1)}, api.ErrTwice},
	} {
		s, ok, err1 := simp.Next(c.e, c.l)
		out, err2 := simp.Do(c.e, c.l, simp.Step{Node: -1})
		simple, log, err3 := simp.Simplify(c.e, c.l)
		back, at, err4 := simp.Replay(c.e, c.l, make([]simp.Step, 3000))
		normal, err5 := simp.IsNormal(c.e, c.l)
		same, err6 := simp.Equal(c.e, c.e, c.l)
		if s != (simp.Step{}) || ok || len(out)+len(simple)+len(log)+len(back)+at > 0 || normal || same {
			t.Error("results beside an error", i)
		}
		if got := []api.Errno{err1, err2, err3, err4, err5, err6}; slices.ContainsFunc(got, func(e api.Errno) bool { return e != c.want }) {
			t.Error(i, got, c.want)
		}
	}
	for i, c := range []struct {
		a, b api.Expr
		l    []span.Known
		want api.Errno
	}{{nil, api.Expr{{Op: -1}}, bad, api.ErrEmpty}, {x, api.Expr{{Op: -1}}, bad, api.ErrKind}, {x, x, bad, api.ErrOrder}, {x, x, nil, api.OK}} {
		if same, err := simp.Equal(c.a, c.b, c.l); same != (c.want == api.OK) || err != c.want {
			t.Error("Equal", i, same, err)
		}
	}
}

func TestUses(t *testing.T) {
	l, err := simp.Uses([]simp.Step{{Rule: "known"}, {Rule: "add_zero", Node: -7}, {Rule: "known"}, {Rule: "add_left"}, {Rule: "fold", Node: 9999}, {Rule: "sat_same"}, {Rule: "add_left"}, {Rule: "add_left"}})
	want := make([]int, 84)
	want[0], want[1], want[2], want[3], want[83] = 1, 2, 1, 3, 1
	if !slices.Equal(l, want) || err != api.OK {
		t.Error(l, err)
	}
	if l, err := simp.Uses(nil); !slices.Equal(l, make([]int, 84)) || err != api.OK {
		t.Error("none", l, err)
	}
	for i, r := range rules() {
		if l, err := simp.Uses([]simp.Step{{Rule: r.Name}}); len(l) != 84 || l[i+2] != 1 || err != api.OK {
			t.Error(r.Name, l, err)
		}
	}
	for i, c := range []struct {
		steps []simp.Step
		want  api.Errno
	}{{[]simp.Step{{Rule: "none"}}, api.ErrUnknown}, {[]simp.Step{{Rule: "fold"}, {}}, api.ErrUnknown}, {make([]simp.Step, 2000), api.ErrUnknown}, {make([]simp.Step, 2001), api.ErrMany}} {
		if l, err := simp.Uses(c.steps); len(l) > 0 || err != c.want {
			t.Error("errors", i, l, err)
		}
	}
	if l, err := simp.Uses(slices.Repeat([]simp.Step{{Rule: "fold"}}, 2000)); err != api.OK || l[0] != 2000 {
		t.Error("2000", err)
	}
}

func TestEqual(t *testing.T) {
	for _, x := range []struct {
		a, b string
		want bool
	}{
		{"2 + j", "j + 1 + 1", true}, {"j + i", "i + j", false}, {"i / 16", "0", true}, {"j / 16", "0", false}, {"!(j < k)", "k <= j", true}, {"1u8", "1", false}, {"j", "j", true}, {"ramp(0 + j, 1, 3)", "ramp(j, 3 - 2, 3)", true},
	} {
		if same, err := simp.Equal(parsed(t, x.a), parsed(t, x.b), exampleKnown()); same != x.want || err != api.OK {
			t.Error(x.a, x.b, same, err)
		}
	}
}

// TestMade compares steps and simplified expressions with the document's words.
func TestMade(t *testing.T) {
	seen := map[string]int{}
	for seed := range int64(260) {
		m := newMaker(seed)
		e, l := m.some(24, true), m.known()
		for range 3 {
			node := m.Intn(len(e))
			for _, name := range append(namesAt(e, node), "fold", "known", rules()[m.Intn(len(rules()))].Name) {
				s := simp.Step{Rule: name, Node: node}
				want, ok := becomes(e, l, s)
				out, err := simp.Do(e, l, s)
				if ok && (err != api.OK || !expr.Same(out, want)) || !ok && (err != api.ErrProof || len(out) > 0) {
					t.Fatal("Do", seed, text(e), l, s, text(out), err)
				}
			}
		}
		simple, log, err := simp.Simplify(e, l)
		if err != api.OK {
			t.Fatal(seed, err)
		}
		now := e
		for i := 0; ; i++ {
			want, ok := next(now, l)
			s, is, err := simp.Next(now, l)
			if s != want || is != ok || err != api.OK {
				t.Fatal("Next", seed, text(now), l, s, is, err, want)
			}
			if normal, err := simp.IsNormal(now, l); normal == ok || err != api.OK {
				t.Fatal("IsNormal", seed, text(now), normal, err)
			}
			if !ok {
				break
			}
			if i >= len(log) || log[i] != s {
				t.Fatal("the log", seed, text(e), l, log, i, s)
			}
			seen[s.Rule]++
			after, _ := becomes(now, l, s)
			a, _ := rule.Measure(after)
			b, _ := rule.Measure(now)
			if !rule.Less(a, b) {
				t.Fatal("the measure does not fall", seed, text(now), text(after))
			}
			now = after
		}
		if !expr.Same(simple, now) {
			t.Fatal("Simplify", seed, text(e), l, text(simple), text(now))
		}
		if back, at, err := simp.Replay(e, l, log); !expr.Same(back, simple) || at != 0 || err != api.OK {
			t.Fatal("Replay", seed, text(e), log, text(back), at, err)
		}
		again, none, err := simp.Simplify(simple, l)
		if !expr.Same(again, simple) || len(none) > 0 || err != api.OK {
			t.Fatal("simplified again", seed, text(simple), text(again), none, err)
		}
	}
	if len(seen) < 60 || seen["fold"] < 50 || seen["known"] < 50 {
		t.Error("rare", len(seen), seen)
	}
}
