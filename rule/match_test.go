package rule_test

import (
	"math"
	"slices"
	"strings"
	"testing"

	"halation/api"
	"halation/expr"
	"halation/num"
	"halation/rule"
)

// matches returns what wildcards stand for, in the document's words.
func matches(pattern, e tree, found map[string]tree) bool {
	if p := pattern.node; p.Op == api.EParam {
		isConst := e.node.Op == api.EConst
		switch {
		case e.node.Kind != p.Kind, e.node.Lanes != 1, strings.Contains("cd", p.Name) && !isConst, p.Name == "n" && isConst:
			return false
		}
		before, ok := found[p.Name]
		found[p.Name] = e
		return !ok || before.equal(e)
	}
	p, n := pattern.node, e.node
	if p.Op != n.Op || p.Kind != n.Kind || p.Name != n.Name || p.Bits != n.Bits || len(pattern.kids) != len(e.kids) || p.Lanes != n.Lanes || !slices.Equal(p.Picks, n.Picks) {
		return false
	}
	for i := range pattern.kids {
		if !matches(pattern.kids[i], e.kids[i], found) {
			return false
		}
	}
	return true
}

// match returns what Match does for a right pattern and a right expression.
func match(pattern, e api.Expr) ([]rule.Bound, bool) {
	found := map[string]tree{}
	if e[len(e)-1].Lanes != 1 || !matches(whole(pattern), whole(e), found) {
		return nil, false
	}
	var out []rule.Bound
	for _, name := range wildcards(pattern) {
		out = append(out, rule.Bound{Name: name, Expr: found[name].expr()})
	}
	return out, true
}

func sameBounds(a, b []rule.Bound) bool {
	return slices.EqualFunc(a, b, func(a, b rule.Bound) bool { return a.Name == b.Name && expr.Same(a.Expr, b.Expr) })
}

// fill puts expressions in place of wildcards.
func fill(pattern tree, l map[string]api.Expr) tree {
	if e, ok := l[pattern.node.Name]; ok && pattern.node.Op == api.EParam {
		return whole(e)
	}
	out := tree{node: pattern.node}
	for _, kid := range pattern.kids {
		out.kids = append(out.kids, fill(kid, l))
	}
	return out
}

func wrongFilled(pattern api.Expr, l []rule.Bound) api.Errno {
	if err := wrongPattern(pattern); err != api.OK {
		return err
	}
	if len(l) > 6 {
		return api.ErrMany
	}
	given := map[string]api.Expr{}
	for _, b := range l {
		if !slices.Contains([]string{"c", "d", "n", "x", "y", "b"}, b.Name) {
			return api.ErrName
		}
		if _, ok := given[b.Name]; ok {
			return api.ErrTwice
		}
		if err := expr.Check(b.Expr); err != api.OK {
			return err
		}
		last := b.Expr[len(b.Expr)-1]
		if last.Lanes != 1 {
			return api.ErrVector
		}
		if kind := kindIn(pattern, b.Name); kind >= 0 && kind != last.Kind {
			return api.ErrType
		}
		given[b.Name] = b.Expr
	}
	for _, name := range wildcards(pattern) {
		if _, ok := given[name]; !ok {
			return api.ErrUnknown
		}
	}
	return expr.Check(fill(whole(pattern), given).expr())
}

func givenOf(l []rule.Bound) map[string]api.Expr {
	out := map[string]api.Expr{}
	for _, b := range l {
		out[b.Name] = b.Expr
	}
	return out
}

// applied returns what a rule makes of an expression, in the document's words.
func applied(r rule.Rule, e api.Expr) (api.Expr, bool) {
	for _, kind := range r.Kinds {
		i, _ := instanceOf(r, kind)
		l, ok := match(i.Left, e)
		if !ok {
			continue
		}
		given := givenOf(l)
		constants := map[string]api.Expr{}
		for _, name := range []string{"c", "d"} {
			if e, ok := given[name]; ok {
				constants[name] = e
			}
		}
		if len(i.Where) > 0 {
			v, _ := expr.Eval(fill(whole(i.Where), constants).expr(), nil)
			if v[0].Bits == 0 {
				continue
			}
		}
		folded, _ := expr.Fold(fill(whole(i.Right), constants).expr())
		return fill(whole(folded), given).expr(), true
	}
	return nil, false
}

// Promise P13.2.

func TestMatchExamples(t *testing.T) {
	for i, x := range []struct {
		pattern, e string
		want       string // nothing, if it does not match
	}{
		{"@x.i32 + @c.i32 + @d.i32", "i + 3 + 4", "x i; c 3; d 4"},
		{"@x.i32 + @c.i32 + @d.i32", "i + 3 + j", ""},
		{"@x.i32 + @c.i32 + @d.i32", "3 + 3 + 3", "x 3; c 3; d 3"},
		{"@x.i32 + @c.i32 + @c.i32", "i + 3 + 4", ""},
		{"@x.i32 + @y.i32 * @x.i32", "i + 3 * i", "x i; y 3"},
		{"@x.i32 + @y.i32 * @x.i32", "i + i * 3", ""},
		{"@x.i32 + @y.i32 * @x.i32", "i / 2 + j * (i / 2)", "x i / 2; y j"},
		{"@x.i32 + @y.i32 * @x.i32", "i / 2 + j * (i / 3)", ""},
		{"@x.i32 - @x.i32", "f.i32(i, 2) - f.i32(i, 2)", "x f.i32(i, 2)"},
		{"@x.i32 - @x.i32", "f.i32(i, 2) - f.i32(i)", ""},
		{"@x.i32 - @x.i32", "f.i32(i) - f.i32[i]", ""},
		{"@x.i32 - @x.i32", "i - j", ""},
		{"@x.i32 - @x.i32", "3 - 4", ""},
		{"@x.i32 - @x.i32", "i32(@p.u8) - i32(@p.i8)", ""},
		{"@x.i32 - @x.i32", "shuffle(ramp(i, 1, 4), 2) - shuffle(ramp(i, 1, 4), 2)", "x shuffle(ramp(i, 1, 4), 2)"},
		{"@x.i32 - @x.i32", "shuffle(ramp(i, 1, 4), 2) - shuffle(ramp(i, 1, 4), 3)", ""},
		{"@x.i32 - @x.i32", "shuffle(ramp(i, 1, 4), 2) - shuffle(ramp(i, 1, 5), 2)", ""},
		{"@x.i32 - @x.i32", "reduce_add(ramp(i, 1, 4)) - reduce_min(ramp(i, 1, 4))", ""},
		{"@x.i32 - @x.i32", "ramp(i, 1, 4) - ramp(i, 1, 4)", ""},
		{"@c.i32", "7", "c 7"}, {"@c.i32", "i", ""}, {"@n.i32", "i", "n i"}, {"@n.i32", "7", ""}, {"@n.i32", "i + 7", "n i + 7"}, {"@n.i32", "7 + 7", "n 7 + 7"}, {"@d.u8", "7", ""}, {"@x.i32", "7", "x 7"}, {"@b.i32", "7", "b 7"}, {"@y.i32", "@y.i32", "y @y.i32"},
		{"@x.i32", "ramp(i, 1, 4)", ""}, {"!@x.i32", "!ramp(i, 1, 4)", ""}, {"shuffle(@x.i32, 0)", "shuffle(ramp(i, 1, 4), 0)", ""}, {"shuffle(@x.i32, 0)", "shuffle(i, 0)", "x i"},
		{"shuffle(shuffle(@x.i32, 0), 0)", "shuffle(shuffle(i, 0), 0)", "x i"}, {"shuffle(shuffle(@x.i32, 0), 0)", "shuffle(shuffle(i, 0, 0), 0)", ""}, {"shuffle(shuffle(@x.i32, 0), 0)", "shuffle(shuffle(i, 0, 0), 1)", ""}, {"shuffle(@x.i32 + 1, 0)", "shuffle(i + 1, 0)", "x i"},
		{"@x.i32 + 0", "i + 0", "x i"}, {"@x.i32 + 0", "i + 1", ""}, {"@x.i32 + 0", "i - 0", ""}, {"@x.i32 + 0", "i", ""}, {"3", "3", "-"}, {"3", "4", ""}, {"3", "3u8", ""}, {"true", "true", "-"},
		{"u8(@x.i32)", "u8(i)", "x i"}, {"u8(@x.i32)", "sat_u8(i)", ""}, {"u8(@x.i32)", "u16(i)", ""}, {"u8(@x.i32)", "u8(@i.i64)", ""},
		{"select(@b.bool, @x.u8, @y.u8)", "select(i < j, @y.u8, @x.u8)", "b i < j; x @y.u8; y @x.u8"},
		{"@x.u8 / @y.u8", "@y.u8 / (@x.u8 + 1u8)", "x @y.u8; y @x.u8 + 1u8"},
	} {
		var want []rule.Bound
		for cell := range strings.SplitSeq(x.want, "; ") {
			if name, text, ok := strings.Cut(cell, " "); ok && len(name) == 1 {
				want = append(want, rule.Bound{Name: name, Expr: parsed(t, text)})
			}
		}
		l, ok, err := rule.Match(parsed(t, x.pattern), parsed(t, x.e))
		if !sameBounds(l, want) || ok != (x.want != "") || err != api.OK {
			t.Error(i, x.pattern, x.e, l, ok, err)
		}
	}
}

func TestMatchMade(t *testing.T) {
	seen := map[bool]int{}
	for seed := range int64(1500) {
		m := newMaker(seed)
		for range 4 {
			e := m.some(80)
			pattern := m.patternOf(e, 3+m.Intn(4))
			if wrongPattern(pattern) != api.OK {
				continue
			}
			if m.Intn(3) == 0 {
				if other := m.filled(pattern, 1); expr.Check(other) == api.OK {
					e = other
				}
			}
			if m.Intn(4) == 0 {
				if other := m.spoilt(e); expr.Check(other) == api.OK {
					e = other
				}
			}
			want, wantOK := match(pattern, e)
			l, ok, err := rule.Match(pattern, e)
			if !sameBounds(l, want) || ok != wantOK || err != api.OK {
				t.Fatal(seed, pattern, e, l, ok, err, want)
			}
			seen[ok]++
			if !ok {
				continue
			}
			// filled with what it matches a pattern is the expression again (P13.4)
			if back, err := rule.Filled(pattern, l); !expr.Same(back, e) || err != api.OK {
				t.Fatal("Filled", seed, pattern, l, back, err, e)
			}
		}
	}
	if seen[true] < 500 || seen[false] < 500 {
		t.Error("rare", seen)
	}
}

func TestMatchErrors(t *testing.T) {
	for i, x := range []struct {
		pattern, e api.Expr
		want       api.Errno
	}{
		{nil, nil, api.ErrEmpty}, {parsed(t, "i"), nil, api.ErrForm}, {parsed(t, "@q.i32"), make(api.Expr, 257), api.ErrName},
		{parsed(t, "@x.i32"), make(api.Expr, 257), api.ErrMany}, {parsed(t, "@x.i32"), nil, api.ErrEmpty}, {parsed(t, "@x.i32"), api.Expr{{Op: -1}}, api.ErrKind},
	} {
		if l, ok, err := rule.Match(x.pattern, x.e); len(l) > 0 || ok || err != x.want {
			t.Error(i, l, ok, err)
		}
	}
}

func TestFilled(t *testing.T) {
	of := func(name, text string) rule.Bound { return rule.Bound{Name: name, Expr: parsed(t, text)} }
	for i, x := range []struct {
		pattern string
		l       []rule.Bound
		want    string
		err     api.Errno
	}{
		{"@x.i32 + @y.i32", []rule.Bound{of("y", "3"), of("x", "4")}, "4 + 3", api.OK},
		{"@x.i32 + @y.i32", []rule.Bound{of("y", "@x.i32 * 2"), of("x", "@y.i32 - 1")}, "@y.i32 - 1 + @x.i32 * 2", api.OK},
		{"@x.i32 + @c.i32 * @x.i32", []rule.Bound{of("x", "i - 1"), of("c", "j")}, "i - 1 + j * (i - 1)", api.OK},
		{"@x.i32 + @n.i32", []rule.Bound{of("x", "1"), of("n", "2"), of("y", "1u8"), of("b", "1"), of("c", "i"), of("d", "f.f32(1)")}, "1 + 2", api.OK},
		{"3", nil, "3", api.OK},
		{"shuffle(@x.i32, 0)", []rule.Bound{of("x", "reduce_add(ramp(i, 1, 4))")}, "shuffle(reduce_add(ramp(i, 1, 4)), 0)", api.OK},
		{"@x.i32 + @y.i32", []rule.Bound{of("y", "3")}, "", api.ErrUnknown},
		{"@x.i32 + @y.i32", nil, "", api.ErrUnknown},
		{"@x.i32", []rule.Bound{of("x", "1u8")}, "", api.ErrType},
		{"@x.i32", []rule.Bound{of("x", "ramp(0, 1, 4)")}, "", api.ErrVector},
		{"@x.u8", []rule.Bound{of("x", "ramp(0, 1, 4)")}, "", api.ErrVector},
		{"@y.i32", []rule.Bound{of("x", "ramp(0, 1, 4)")}, "", api.ErrVector},
		{"@x.i32", []rule.Bound{of("q", "1")}, "", api.ErrName},
		{"@x.i32", []rule.Bound{of("", "1")}, "", api.ErrName},
		{"@x.i32", []rule.Bound{of("x", "1"), of("x", "1")}, "", api.ErrTwice},
		{"@x.i32", []rule.Bound{of("x", "1"), {Name: "x"}}, "", api.ErrTwice},
		{"@x.i32", []rule.Bound{{Name: "q"}}, "", api.ErrName},
		{"@x.i32", []rule.Bound{{Name: "y"}}, "", api.ErrEmpty},
		{"@x.i32", []rule.Bound{of("x", "1u8"), {Name: "y"}}, "", api.ErrType},
		{"@x.i32", make([]rule.Bound, 7), "", api.ErrMany},
		{"@x.i32", make([]rule.Bound, 6), "", api.ErrName},
		{"i", make([]rule.Bound, 7), "", api.ErrForm},
	} {
		out, err := rule.Filled(parsed(t, x.pattern), x.l)
		if err != x.err || err == api.OK && !expr.Same(out, parsed(t, x.want)) || err != api.OK && len(out) > 0 {
			t.Error(i, out, err)
		}
	}
	// 255 nodes are right, 257 are too many
	long := parsed(t, "i"+strings.Repeat(" + i", 63))
	if out, err := rule.Filled(parsed(t, "@x.i32 + @x.i32"), []rule.Bound{{Name: "x", Expr: long}}); len(out) != 255 || err != api.OK {
		t.Error("long", len(out), err)
	}
	if out, err := rule.Filled(parsed(t, "!!(@x.i32 + @x.i32)"), []rule.Bound{{Name: "x", Expr: long}}); len(out) > 0 || err != api.ErrMany {
		t.Error("too long", len(out), err)
	}
}

func TestFilledMade(t *testing.T) {
	seen := map[api.Errno]int{}
	for seed := range int64(600) {
		m := newMaker(seed)
		for range 6 {
			pattern := m.patternOf(m.some(30), 3)
			if m.Intn(10) == 0 {
				pattern = m.spoilt(pattern)
			}
			var l []rule.Bound
			if wrongPattern(pattern) == api.OK {
				for _, name := range wildcards(pattern) {
					l = append(l, rule.Bound{Name: name, Expr: m.expr(kindIn(pattern, name), 2)})
				}
			}
			if m.Intn(3) == 0 {
				l = append(l, rule.Bound{Name: string("cdnxybq"[m.Intn(7)]), Expr: m.some(40)})
			}
			m.Shuffle(len(l), func(i, j int) { l[i], l[j] = l[j], l[i] })
			if len(l) > 0 && m.Intn(5) == 0 {
				i := m.Intn(len(l))
				l[i].Expr = m.spoilt(l[i].Expr)
			}
			want := wrongFilled(pattern, l)
			seen[want]++
			out, err := rule.Filled(pattern, l)
			if err != want || err == api.OK && !expr.Same(out, fill(whole(pattern), givenOf(l)).expr()) || err != api.OK && len(out) > 0 {
				t.Fatal(seed, pattern, l, out, err, want)
			}
		}
	}
	for _, err := range []api.Errno{api.OK, api.ErrName, api.ErrTwice, api.ErrType, api.ErrForm} {
		if seen[err] < 20 {
			t.Error("rare", err, seen)
		}
	}
}

func TestApplyExamples(t *testing.T) {
	for i, x := range []struct {
		name, e string
		node    int
		want    string // the same, if it cannot be applied
	}{
		{"add_add", "i + 3 + 4", 4, "i + 7"}, {"add_add", "i + 3 + 4", 2, ""}, {"sub_const", "i - 5", 2, "i + -5"}, {"sub_const", "8 - 5", 2, "8 + -5"}, {"add_left", "5 + i", 2, "i + 5"}, {"add_left", "5 + 6", 2, ""},
		{"max_of_min", "max(min(i, 3), 8)", 4, "8"}, {"max_of_min", "max(min(i, 8), 3)", 4, ""}, {"max_of_min", "max(min(i, 8), 8)", 4, "8"}, {"min_of_max", "min(max(i, 8), 3)", 4, "3"}, {"min_of_max", "min(max(i, 3), 8)", 4, ""},
		{"max_of_min", "max(min(@p.i8, -3i8), 8i8)", 4, "8i8"}, {"max_of_min", "max(min(@p.u8, 253u8), 8u8)", 4, ""},
		{"div_div", "i / 3 / 4", 4, "i / 12"}, {"div_div", "i / 65536 / 65536", 4, ""}, {"div_div", "i / -3 / 4", 4, ""}, {"div_div", "i / 3 / -4", 4, ""}, {"div_div", "i / 0 / 4", 4, ""}, {"div_div", "i / 4 / 0", 4, ""},
		{"shl_shl", "@p.u8 << 200u8 << 55u8", 4, "@p.u8 << 255u8"}, {"shl_shl", "@p.u8 << 200u8 << 56u8", 4, ""}, {"shl_shl", "i << 1 << 2", 4, ""},
		{"sub_same", "j * (i - i)", 3, "j * 0"}, {"sub_same", "j * (i - i)", 4, ""}, {"sub_same", "j * (i - i)", 1, ""}, {"sub_same", "@p.f32 - @p.f32", 2, "0p0f32"}, {"sub_same", "@p.c64 - @p.c64", 2, ""},
		{"add_sub", "i + j - j", 4, "i"}, {"add_sub", "i + j - i", 4, ""}, {"add_sub_left", "i + j - i", 4, "j"}, {"eq_add", "i + 3 == 1", 4, "i == -2"}, {"not_lt", "!(i < j)", 3, "j <= i"},
		{"select_not", "select(!@b.bool, i, j)", 4, "select(@b.bool, j, i)"}, {"select_same", "select(i < j, 3, 3)", 5, "3"}, {"select_lt", "select(i < j, i, j)", 5, "min(i, j)"}, {"select_lt", "select(i < j, j, i)", 5, ""}, {"select_gt", "select(i < j, j, i)", 5, "max(j, i)"},
		{"cast_same", "i32(i)", 1, "i"}, {"cast_same", "c64(@p.c64)", 1, "@p.c64"}, {"cast_same", "c64(@p.f32)", 1, ""}, {"sat_same", "sat_i32(i)", 1, "i"}, {"sat_same", "sat_u8(i)", 1, ""},
		{"lt_zero", "i < 0", 2, ""}, {"lt_zero", "@p.u64 < 0u64", 2, "false"}, {"lt_zero", "@p.f32 < 0p0f32", 2, ""}, {"or_true", "@b.bool | true", 2, "true"}, {"or_true", "i | 1", 2, ""},
		{"add_zero", "f.i32(i + 0, j)", 2, "f.i32(i, j)"}, {"add_zero", "f.i32(i + 0, j)", 4, ""}, {"add_zero", "broadcast(i + 0, 4)", 2, "broadcast(i, 4)"}, {"add_zero", "ramp(i, 1, 4) + broadcast(0, 4)", 5, ""}, {"sub_same", "ramp(i, 1, 4) - ramp(i, 1, 4)", 6, ""},
		// what wildcards stand for has the names of others
		{"add_sub_left", "@y.u8 + @x.u8 - @y.u8", 4, "@x.u8"}, {"select_gt", "select(@x.u8 < @y.u8, @y.u8, @x.u8)", 5, "max(@y.u8, @x.u8)"}, {"sub_const", "@c.u8 - 3u8", 2, "@c.u8 + 253u8"},
		{"min_left", "min(3p0f32, @d.f32)", 2, "min(@d.f32, 3p0f32)"}, {"not_not", "!!!@p.i8", 3, "!@p.i8"}, {"not_not", "!!!@p.i8", 2, "!@p.i8"}, {"not_not", "!!!@p.i8", 1, ""},
	} {
		e := parsed(t, x.e)
		want := e
		if x.want != "" {
			want = parsed(t, x.want)
		}
		out, ok, err := rule.Apply(ruleNamed(t, x.name), e, x.node)
		if !expr.Same(out, want) || ok != (x.want != "") || err != api.OK {
			t.Error(i, x.name, x.e, out, ok, err)
		}
	}
}

// TestApplyOwn applies rules that are none of the table.
func TestApplyOwn(t *testing.T) {
	own := func(left, right, where string, kinds ...int) rule.Rule {
		r := rule.Rule{Name: "own", Left: pattern(t, left), Right: pattern(t, right), Kinds: kinds}
		if where != "" {
			r.Where = pattern(t, where)
		}
		return r
	}
	for i, x := range []struct {
		r       rule.Rule
		e, want string
	}{
		{own("@x + 1u8", "@x", "", api.U8, api.I32), "i + 1", "i"},
		{own("@x + 1u8", "@x", "", api.U8, api.I16), "i + 1", ""},
		{own("@x + 1u8", "@x", "false", api.I32), "i + 1", ""},
		{own("@x + 1u8", "@x", "true", api.I32), "i + 1", "i"},
		{own("@x + @c", "@x", "@c == 200u8", api.U8, api.I8), "@p.i8 + -56i8", "@p.i8"},
		{own("@x + @c", "@x", "@c == 200u8", api.U8, api.I16), "@p.i16 + -56i16", ""},
		// only Bool in it, so that all kinds have one instance
		{own("!!@b", "@b", "", api.U8, api.F32, api.C64), "!!(i < 3)", "i < 3"},
		// right sides are folded before the other wildcards are there
		{own("!(@x + (@c + @y))", "@x + (@c - 1u8)", "", api.I32), "!(3 + (5 + j))", "3 + 4"},
		{own("!!!(@x + @c)", "(@x + @x) % @c", "", api.I32), "!!!(3 + 5)", ""},
		{own("!!!(@x + @x + @c)", "(@x + @x) % (@c * @c)", "", api.I32), "!!!(3 + 3 + 5)", "(3 + 3) % 25"},
		{own("select(@b, @c, @x)", "select(!@b, @x, @c)", "", api.I32), "select(true, 1, 2)", ""},
		// a pattern has one lane everywhere
		{own("shuffle(shuffle(@x, 0), 0)", "@x", "", api.I32), "shuffle(shuffle(i, 0), 0)", "i"},
		{own("shuffle(shuffle(@x, 0), 0)", "@x", "", api.I32), "shuffle(shuffle(i, 0, 0), 0)", ""},
		{own("shuffle(shuffle(@x, 0), 0)", "@x", "", api.I32), "shuffle(shuffle(i, 0, 0), 1)", ""},
	} {
		e := parsed(t, x.e)
		out, ok, err := rule.Apply(x.r, e, len(e)-1)
		if rule.Check(x.r) == api.ErrState {
			if len(out) > 0 || ok || err != api.ErrState {
				t.Error(i, out, ok, err)
			}
			continue
		}
		want := e
		if x.want != "" {
			want = parsed(t, x.want)
		}
		if !expr.Same(out, want) || ok != (x.want != "") || err != api.OK {
			t.Error(i, out, ok, err, x.want)
		}
	}
}

func TestApplyErrors(t *testing.T) {
	good, bad := ruleNamed(t, "add_zero"), rule.Rule{Name: "a"}
	x := parsed(t, "i + 0")
	for i, c := range []struct {
		l    []rule.Rule
		e    api.Expr
		node int
		want api.Errno
	}{
		{[]rule.Rule{bad}, nil, -1, api.ErrEmpty}, {[]rule.Rule{{}}, make(api.Expr, 257), -1, api.ErrName}, {[]rule.Rule{good}, make(api.Expr, 257), -1, api.ErrMany}, {[]rule.Rule{good}, nil, -1, api.ErrEmpty},
		{[]rule.Rule{good}, x, -1, api.ErrUnknown}, {[]rule.Rule{good}, x, 3, api.ErrUnknown}, {[]rule.Rule{good}, x, math.MaxInt, api.ErrUnknown}, {[]rule.Rule{good}, x, 2, api.OK},
		{[]rule.Rule{good, {}, bad}, x, 2, api.ErrName}, {[]rule.Rule{good, bad, {}}, x, 2, api.ErrEmpty}, {make([]rule.Rule, 257), x, 2, api.ErrMany}, {make([]rule.Rule, 256), x, 2, api.ErrName}, {slices.Repeat([]rule.Rule{good}, 256), x, 2, api.OK},
		{nil, nil, 2, api.ErrEmpty}, {nil, x, 3, api.ErrUnknown},
	} {
		if at, ok, err := rule.First(c.l, c.e, c.node); at != 0 || ok != (c.want == api.OK) || err != c.want {
			t.Error("First", i, at, ok, err)
		}
		if len(c.l) != 1 {
			continue
		}
		if out, ok, err := rule.Apply(c.l[0], c.e, c.node); (len(out) > 0) != (c.want == api.OK) || ok != (c.want == api.OK) || err != c.want {
			t.Error("Apply", i, out, ok, err)
		}
	}
	if at, ok, err := rule.First(rule.Rules(), parsed(t, "i + j - j"), 4); at != 3 || !ok || err != api.OK {
		t.Error("First", at, ok, err)
	}
	if at, ok, err := rule.First(rule.Rules(), parsed(t, "i + j - j"), 3); at != 0 || ok || err != api.OK {
		t.Error("First of none", at, ok, err)
	}
}

// TestApplyMade applies rules at all nodes of expressions that look like their left sides.
func TestApplyMade(t *testing.T) {
	all := rule.Rules()
	seen := map[string]int{}
	for seed, i := range instances() {
		m := newMaker(int64(seed))
		e := m.filled(i.Left, m.Intn(3))
		for len(e) > 30 {
			e = m.filled(i.Left, 1)
		}
		for node := range e {
			sub, _ := expr.Sub(e, node)
			var like []rule.Rule
			for _, r := range all {
				if r.Left[len(r.Left)-1].Op == e[node].Op || m.Intn(30) == 0 {
					like = append(like, r)
				}
			}
			first, any := 0, false
			for number, r := range like {
				by, can := applied(r, sub)
				want := e
				if can {
					want, _ = expr.Replace(e, node, by)
					if !any {
						first, any = number, true
					}
				}
				out, ok, err := rule.Apply(r, e, node)
				if !expr.Same(out, want) || ok != can || err != api.OK {
					t.Fatal("Apply", seed, r.Name, e, node, out, ok, err, want)
				}
				if ok {
					seen[r.Name]++
					lowers(t, m, e, out)
				}
			}
			if number, ok, err := rule.First(like, e, node); number != first || ok != any || err != api.OK {
				t.Fatal("First", seed, e, node, number, ok, err, first)
			}
		}
	}
	for _, r := range all {
		if seen[r.Name] == 0 {
			t.Error("never applied", r.Name)
		}
	}
}

// lowers compares an expression with what a rule of the table made of it (P13.4).
func lowers(t *testing.T, m maker, before, after api.Expr) {
	t.Helper()
	a, err1 := rule.Measure(after)
	b, err2 := rule.Measure(before)
	if !rule.Less(a, b) || rule.Less(b, a) || err1 != api.OK || err2 != api.OK {
		t.Fatal("the measure does not fall", before, after, a, b)
	}
	if slices.ContainsFunc(before, func(n api.Node) bool { return n.Op >= api.ECall && n.Op <= api.ELoad }) {
		return
	}
	for range 3 {
		l := m.bindings(before)
		v, err1 := expr.Eval(before, l)
		w, err2 := expr.Eval(after, l)
		if err1 == api.ErrType { // one name has two kinds
			return
		}
		if !slices.Equal(v, w) || err1 != api.OK || err2 != api.OK {
			t.Fatal("the value does not stay", before, after, l, v, w, err1, err2)
		}
	}
}

// Promise P13.3.

func TestMeasure(t *testing.T) {
	for s, want := range map[string][4]int{
		"i + 3 + 4": {5, 0, 1, 0}, "i + 7": {3, 0, 1, 0}, "i - 5": {3, 1, 1, 0}, "i + -5": {3, 0, 1, 0}, "5 + i": {3, 0, 1, 1}, "5 + 6": {3, 0, 0, 0}, "5 - i": {3, 1, 1, 0}, "5": {1, 0, 0, 0},
		"5 + (i - j)": {5, 1, 2, 1}, "f.u8(@p.i32) & g.u8[3]": {5, 0, 3, 0}, "3u8 & g.u8{i}": {4, 0, 2, 1}, "broadcast(3, 4) + ramp(i, 1, 4)": {6, 0, 1, 0}, "reduce_add(ramp(i, 1, 4))": {4, 0, 1, 0},
		"3 * i": {3, 0, 1, 1}, "3 / i": {3, 0, 1, 0}, "3 % i": {3, 0, 1, 0}, "min(3, i)": {3, 0, 1, 1}, "max(3, i)": {3, 0, 1, 1}, "3 & i": {3, 0, 1, 1}, "3 | i": {3, 0, 1, 1}, "3 ^ i": {3, 0, 1, 1}, "3 == i": {3, 0, 1, 1}, "3 != i": {3, 0, 1, 1},
		"3 < i": {3, 0, 1, 0}, "3 <= i": {3, 0, 1, 0}, "3 << i": {3, 0, 1, 0}, "3 >> i": {3, 0, 1, 0}, "sat_add(3, i)": {3, 0, 1, 0}, "sat_sub(3, i)": {3, 0, 1, 0}, "avg(3, i)": {3, 0, 1, 0}, "dist(3, i)": {3, 0, 1, 0},
		"select(true, i, j)": {4, 0, 2, 0}, "u8(i)": {2, 0, 1, 0}, "!i": {2, 0, 1, 0},
	} {
		if m, err := rule.Measure(parsed(t, s)); m != want || err != api.OK {
			t.Error(s, m, err, want)
		}
	}
	for i, e := range []api.Expr{nil, make(api.Expr, 257), {{Op: -1}}} {
		if m, err := rule.Measure(e); m != [4]int{} || err != expr.Check(e) || err == api.OK {
			t.Error("an error", i, m, err)
		}
	}
	for seed := range int64(200) {
		e := newMaker(seed).some(200)
		if m, err := rule.Measure(e); m != measure(e) || err != api.OK {
			t.Fatal(seed, e, m, err)
		}
	}
}

func TestLess(t *testing.T) {
	var all [][4]int
	for n := range 81 {
		all = append(all, [4]int{n/27%3 - 1, n/9%3 - 1, n/3%3 - 1, n%3 - 1})
	}
	all = append(all, [4]int{math.MinInt, math.MaxInt, 0, 0}, [4]int{math.MaxInt, math.MinInt, 0, 0})
	for _, a := range all {
		for _, b := range all {
			if rule.Less(a, b) != less(a, b) {
				t.Error(a, b)
			}
		}
	}
}

func TestHolds(t *testing.T) {
	v := func(kind int, n int64) api.Value {
		out, _ := num.Wrap(kind, n)
		return out
	}
	of := func(name string, n int64) expr.Binding { return expr.Binding{Name: name, Value: v(api.I8, n)} }
	div := ruleNamed(t, "div_div")
	bare := div
	bare.Where = nil
	never := rule.Rule{Name: "r", Left: pattern(t, "1u8 + 0u8"), Right: pattern(t, "2u8"), Where: pattern(t, "false"), Kinds: []int{api.I8}}
	always := never
	always.Where = pattern(t, "true")
	none := rule.Rule{Name: "r", Left: pattern(t, "1u8 + 0u8"), Right: pattern(t, "1u8"), Kinds: []int{api.I8}}
	for i, x := range []struct {
		r    rule.Rule
		kind int
		l    []expr.Binding
		want bool
		err  api.Errno
	}{
		{div, api.I8, []expr.Binding{of("x", -128), of("c", 16), of("d", 16)}, true, api.OK},
		{bare, api.I8, []expr.Binding{of("x", -128), of("c", 16), of("d", 16)}, false, api.OK},
		{bare, api.I8, []expr.Binding{of("d", 4), of("c", 16), of("x", -128)}, true, api.OK},
		{none, api.I8, nil, true, api.OK}, {never, api.I8, nil, true, api.OK}, {always, api.I8, nil, false, api.OK},
		{bare, api.F32, nil, false, api.ErrKind}, {bare, -1, nil, false, api.ErrKind}, {bare, 11, make([]expr.Binding, 7), false, api.ErrKind}, {rule.Rule{}, 11, nil, false, api.ErrName},
		{bare, api.I8, make([]expr.Binding, 7), false, api.ErrMany}, {bare, api.I8, make([]expr.Binding, 6), false, api.ErrName},
		{bare, api.I8, []expr.Binding{of("x", -128), of("c", 16)}, false, api.ErrUnknown}, {bare, api.I8, nil, false, api.ErrUnknown},
		{bare, api.I8, []expr.Binding{of("y", -128), of("c", 16)}, false, api.ErrName}, {none, api.I8, []expr.Binding{of("x", 0)}, false, api.ErrName},
		{bare, api.I8, []expr.Binding{of("x", 0), {Name: "x", Value: api.Value{Kind: 99}}}, false, api.ErrTwice},
		{bare, api.I8, []expr.Binding{{Name: "x", Value: api.Value{Kind: 99}}}, false, api.ErrKind},
		{bare, api.I8, []expr.Binding{{Name: "x", Value: api.Value{Kind: api.U8, Bits: 256}}}, false, api.ErrForm},
		{bare, api.I8, []expr.Binding{{Name: "x", Value: v(api.U8, 1)}, of("q", 1)}, false, api.ErrType},
		{bare, api.U8, []expr.Binding{of("x", 0)}, false, api.ErrType},
		{ruleNamed(t, "select_same"), api.I8, []expr.Binding{of("b", 1)}, false, api.ErrType},
		{ruleNamed(t, "select_same"), api.I8, []expr.Binding{of("x", 1), {Name: "b", Value: v(api.Bool, 1)}}, true, api.OK},
		// n may have any value
		{ruleNamed(t, "add_left"), api.I8, []expr.Binding{of("c", 1), of("n", 100)}, true, api.OK},
	} {
		if ok, err := rule.Holds(x.r, x.kind, x.l); ok != x.want || err != x.err {
			t.Error(i, ok, err)
		}
	}
}

// TestHoldsMade asks rules, right and wrong ones, and compares with their values.
func TestHoldsMade(t *testing.T) {
	seen := map[bool]int{}
	all := rule.Rules()
	for seed := range int64(8000) {
		m := newMaker(seed)
		r := all[m.Intn(len(all))]
		if m.Intn(2) == 0 {
			r.Right = all[m.Intn(len(all))].Right
		}
		if m.Intn(3) == 0 {
			r.Where = nil
		}
		if rule.Check(r) != api.OK {
			continue
		}
		kind := r.Kinds[m.Intn(len(r.Kinds))]
		i, _ := instanceOf(r, kind)
		var l []expr.Binding
		for _, name := range wildcards(i.Left) {
			l = append(l, expr.Binding{Name: name, Value: m.value(kindIn(i.Left, name))})
		}
		a, _ := expr.Eval(i.Left, l)
		b, _ := expr.Eval(i.Right, l)
		want := a[0] == b[0]
		if len(i.Where) > 0 {
			w, _ := expr.Eval(i.Where, l)
			want = want || w[0].Bits == 0
		}
		seen[want]++
		if ok, err := rule.Holds(r, kind, l); ok != want || err != api.OK {
			t.Fatal(seed, r, kind, l, ok, err)
		}
	}
	if seen[false] < 200 || seen[true] < 200 {
		t.Error("rare", seen)
	}
}

// Promise P1.

// TestAnyArguments asks for nothing but the errors of arguments of any form.
func TestAnyArguments(t *testing.T) {
	all := rule.Rules()
	for seed := range int64(2500) {
		m := newMaker(seed)
		r := all[m.Intn(len(all))]
		r.Left, r.Right, r.Where = m.spoilt(r.Left), m.spoilt(r.Right), m.spoilt(r.Where)
		if m.Intn(2) == 0 {
			r = all[m.Intn(len(all))]
		}
		e := m.spoilt(all[m.Intn(len(all))].Left)
		pattern := m.spoilt(all[m.Intn(len(all))].Left)
		node := m.anyInt()
		want := wrongRule(r)
		if want == api.OK {
			want = expr.Check(e)
		}
		if want == api.OK && (node < 0 || node >= len(e)) {
			want = api.ErrUnknown
		}
		out, ok, err := rule.Apply(r, e, node)
		at, first, err2 := rule.First([]rule.Rule{r}, e, node)
		if err != want || err2 != want || ok != first || at != 0 || want != api.OK && (len(out) > 0 || ok) {
			t.Fatal("Apply", seed, r, e, node, out, ok, err, want)
		}
		want = wrongPattern(pattern)
		if names, err := rule.Wildcards(pattern); err != want || err == api.OK && !slices.Equal(names, wildcards(pattern)) || err != api.OK && len(names) > 0 {
			t.Fatal("Wildcards", seed, pattern, names, err, want)
		}
		if want == api.OK {
			want = expr.Check(e)
		}
		if l, ok, err := rule.Match(pattern, e); err != want || err != api.OK && (ok || len(l) > 0) {
			t.Fatal("Match", seed, pattern, e, l, ok, err, want)
		}
		bound := []expr.Binding{{Name: "x", Value: api.Value{Kind: m.anyInt(), Bits: uint64(m.anyInt())}}}
		if ok, err := rule.Holds(r, m.anyInt(), bound); err != api.OK && ok {
			t.Fatal("Holds", seed, r, bound, ok, err)
		}
	}
}

// TestMemory changes results, and looks whether anything else changes.
func TestMemory(t *testing.T) {
	scribble := func(l ...api.Expr) {
		for _, e := range l {
			for i := range e {
				for k := range e[i].Kids {
					e[i].Kids[k] = 99
				}
				for k := range e[i].Picks {
					e[i].Picks[k] = 99
				}
				e[i] = api.Node{Op: 99}
			}
		}
	}
	l := rule.Rules()
	for i, r := range l {
		scribble(r.Left, r.Right, r.Where)
		r.Kinds[0] = 99
		if i+1 < len(l) && rule.Check(l[i+1]) != api.OK {
			t.Fatal("rules share memory", i)
		}
	}
	if rule.Check(rule.Rules()[0]) != api.OK {
		t.Fatal("rules are kept")
	}
	r, again := ruleNamed(t, "div_div"), ruleNamed(t, "div_div")
	i, _ := rule.Instance(r, api.U8)
	scribble(i.Left)
	if expr.Check(i.Right) != api.OK || expr.Check(i.Where) != api.OK {
		t.Error("the sides of an instance share memory", i)
	}
	scribble(i.Right, i.Where)
	i.Kinds[0] = 99
	text := "shuffle(ramp(i, 1, 4), 2) + 0 + (j + 1)"
	e := parsed(t, text)
	p := parsed(t, "@x.i32 + 0 + @y.i32")
	bound, ok, _ := rule.Match(p, e)
	filled, _ := rule.Filled(p, bound)
	scribble(filled)
	if !ok || !expr.Same(bound[0].Expr, parsed(t, "shuffle(ramp(i, 1, 4), 2)")) {
		t.Error("Filled shares memory", bound)
	}
	scribble(bound[0].Expr, bound[1].Expr)
	for node := range len(e) {
		out, _, _ := rule.Apply(ruleNamed(t, "add_zero"), e, node)
		scribble(out)
	}
	picked := parsed(t, "shuffle(@x.i32, 0)")
	filled, _ = rule.Filled(picked, []rule.Bound{{Name: "x", Expr: e}})
	scribble(filled)
	if !expr.Same(picked, parsed(t, "shuffle(@x.i32, 0)")) {
		t.Error("Filled shares memory with the pattern", picked)
	}
	if !sameRule(r, again) || !expr.Same(e, parsed(t, text)) || !expr.Same(p, parsed(t, "@x.i32 + 0 + @y.i32")) {
		t.Error("arguments were changed", r, e, p)
	}
}
