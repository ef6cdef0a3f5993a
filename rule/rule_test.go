package rule_test

import (
	"math"
	"slices"
	"strings"
	"testing"

	"halation/api"
	"halation/expr"
	"halation/num"
	"halation/rule"
)

// wrongPattern returns the error of a pattern, in the document's words.
func wrongPattern(e api.Expr) api.Errno {
	if err := expr.Check(e); err != api.OK {
		return err
	}
	for _, n := range e {
		if n.Op == api.EVar || n.Op == api.ECall || n.Op == api.EImage || n.Op == api.ELoad || n.Lanes > 1 {
			return api.ErrForm
		}
		if n.Op == api.EParam && (len(n.Name) != 1 || !strings.Contains("cdnxyb", n.Name)) {
			return api.ErrName
		}
	}
	for _, m := range e {
		for _, n := range e {
			if m.Op == api.EParam && n.Op == api.EParam && m.Name == n.Name && m.Kind != n.Kind {
				return api.ErrType
			}
		}
	}
	return api.OK
}

func wildcards(e api.Expr) []string {
	var out []string
	for _, n := range e {
		if n.Op == api.EParam && !slices.Contains(out, n.Name) {
			out = append(out, n.Name)
		}
	}
	return out
}

func count(e api.Expr, name string) int {
	n := 0
	for _, node := range e {
		if node.Op == api.EParam && node.Name == name {
			n++
		}
	}
	return n
}

// early returns the error of a rule before its instances.
func early(r rule.Rule) api.Errno {
	if !expr.IsName(r.Name) {
		return api.ErrName
	}
	for i, e := range []api.Expr{r.Left, r.Right, r.Where} {
		if err := wrongPattern(e); err != api.OK && (i < 2 || len(e) > 0) {
			return err
		}
	}
	for _, n := range slices.Concat(r.Left, r.Right, r.Where) {
		if n.Kind > api.U8 {
			return api.ErrType
		}
	}
	if r.Left[len(r.Left)-1].Kind != r.Right[len(r.Right)-1].Kind || len(r.Where) > 0 && r.Where[len(r.Where)-1].Kind != api.Bool {
		return api.ErrType
	}
	if len(r.Kinds) == 0 {
		return api.ErrEmpty
	}
	for i, kind := range r.Kinds {
		if kind < 0 || kind > 10 {
			return api.ErrKind
		}
		if i > 0 && kind <= r.Kinds[i-1] {
			return api.ErrOrder
		}
	}
	if len(r.Left) == 1 && r.Left[0].Op == api.EParam {
		return api.ErrForm
	}
	for _, name := range wildcards(r.Right) {
		if count(r.Left, name) == 0 {
			return api.ErrUnknown
		}
	}
	for _, name := range wildcards(r.Where) {
		if name != "c" && name != "d" || count(r.Left, name) == 0 {
			return api.ErrUnknown
		}
	}
	for _, n := range append(slices.Clone(r.Right), r.Where...) {
		if n.Op == api.EParam && n.Kind != kindIn(r.Left, n.Name) {
			return api.ErrType
		}
	}
	return api.OK
}

// instanceOf returns an instance, and whether its expressions are right.
func instanceOf(r rule.Rule, kind int) (rule.Rule, bool) {
	change := func(e api.Expr) api.Expr {
		out := whole0(e)
		for i, n := range out {
			if n.Kind == api.U8 {
				out[i].Kind = kind
				if n.Op == api.EConst {
					v, _ := num.Cast(kind, api.Value{Kind: api.U8, Bits: n.Bits})
					out[i].Bits = v.Bits
				}
			}
		}
		return out
	}
	out := rule.Rule{Name: r.Name, Left: change(r.Left), Right: change(r.Right), Where: change(r.Where), Kinds: []int{kind}}
	ok := expr.Check(out.Left) == api.OK && expr.Check(out.Right) == api.OK && (len(r.Where) == 0 || expr.Check(out.Where) == api.OK)
	return out, ok
}

// whole0 returns a copy of an expression, which may be empty.
func whole0(e api.Expr) api.Expr {
	if len(e) == 0 {
		return nil
	}
	return whole(e).expr()
}

// wrongRule returns the error of a rule.
func wrongRule(r rule.Rule) api.Errno {
	if err := early(r); err != api.OK {
		return err
	}
	for _, kind := range r.Kinds {
		if _, ok := instanceOf(r, kind); !ok {
			return api.ErrType
		}
	}
	ones := func(e api.Expr) api.Expr {
		out := whole(e).expr()
		for i, n := range out {
			if n.Op == api.EParam && (n.Name == "c" || n.Name == "d") {
				out[i] = constOf(n.Kind, 1)[0]
			}
		}
		return out
	}
	right, _ := expr.Fold(ones(r.Right))
	if !less(measure(right), measure(ones(r.Left))) {
		return api.ErrState
	}
	for _, name := range wildcards(r.Right) {
		if name != "c" && name != "d" && count(r.Right, name) > count(r.Left, name) {
			return api.ErrState
		}
	}
	return api.OK
}

// measure counts from the last node on.
func measure(e api.Expr) [4]int {
	parts := whole(e).parts()
	m := [4]int{len(parts), 0, 0, 0}
	for _, x := range parts {
		switch op := x.node.Op; {
		case op == api.ESub:
			m[1]++
		case op == api.EVar, op == api.EParam, op == api.ECall, op == api.EImage, op == api.ELoad:
			m[2]++
		case op == api.EAdd, op == api.EMul, op == api.EMin, op == api.EMax, op == api.EAnd, op == api.EOr, op == api.EXor, op == api.EEq, op == api.ENe:
			if x.kids[0].node.Op == api.EConst && x.kids[1].node.Op != api.EConst {
				m[3]++
			}
		}
	}
	return m
}

func less(a, b [4]int) bool {
	switch {
	case a[0] != b[0]:
		return a[0] < b[0]
	case a[1] != b[1]:
		return a[1] < b[1]
	case a[2] != b[2]:
		return a[2] < b[2]
	}
	return a[3] < b[3]
}

func sameRule(a, b rule.Rule) bool {
	return a.Name == b.Name && expr.Same(a.Left, b.Left) && expr.Same(a.Right, b.Right) && expr.Same(a.Where, b.Where) && slices.Equal(a.Kinds, b.Kinds)
}

// Promise P13.1.

// TestCheckOrder takes a rule with all errors, and rights one after the other.
func TestCheckOrder(t *testing.T) {
	p := func(s string) api.Expr { return pattern(t, s) }
	r := rule.Rule{Name: "9", Where: api.Expr{{Op: -1}}}
	for i, x := range []struct {
		want  api.Errno
		right func()
	}{
		{api.ErrName, func() { r.Name = "" }},
		{api.ErrName, func() { r.Name = "a" }},
		{api.ErrEmpty, func() { r.Left = put(api.Node{Op: api.EAdd, Kind: api.U8, Lanes: 1}, p("u8(y)"), p("y")) }},
		{api.ErrType, func() { r.Left = p("@x + u8(y)") }},
		{api.ErrForm, func() { r.Left = p("@x + u8(@q.i32)") }},
		{api.ErrName, func() { r.Left = p("@x + u8(@x.i32)") }},
		{api.ErrType, func() { r.Left = p("@x + u8(@y.i32)") }},
		{api.ErrEmpty, func() { r.Right = p("f.u8(0)") }},
		{api.ErrForm, func() { r.Right = p("u8(@q.bool)") }},
		{api.ErrName, func() { r.Right = p("u8(@y.bool)") }},
		{api.ErrKind, func() { r.Where = p("u8(z)") }},
		{api.ErrForm, func() { r.Where = p("@q.u8") }},
		{api.ErrName, func() { r.Where = p("@c + @x") }},
		{api.ErrType, func() { r.Left = p("@x == @y") }},
		{api.ErrType, func() { r.Left = p("@x") }},
		{api.ErrType, func() { r.Where = p("@x < 1u8") }},
		{api.ErrEmpty, func() { r.Kinds = []int{api.U8, 11} }},
		{api.ErrKind, func() { r.Kinds = []int{api.U8, api.U8, 11} }},
		{api.ErrOrder, func() { r.Kinds = []int{api.U8, api.C64} }},
		{api.ErrForm, func() { r.Left = p("@x + @x") }},
		{api.ErrUnknown, func() { r.Right = p("u8(@x.bool)") }},
		{api.ErrUnknown, func() { r.Where = p("@c < 1u8") }},
		{api.ErrUnknown, func() { r.Left = p("@x + @c") }},
		{api.ErrType, func() { r.Right, r.Where = p("@x + @x"), p("@c.bool == true") }},
		{api.ErrType, func() { r.Where = p("@c < 1u8") }},
		{api.ErrType, func() { r.Kinds = []int{api.U8} }},
		{api.ErrState, func() { r.Right = p("@x") }},
		{api.OK, func() {}},
	} {
		if err := rule.Check(r); err != x.want || err != wrongRule(r) {
			t.Error("step", i, err, x.want, wrongRule(r))
		}
		x.right()
	}
}

func TestCheckExamples(t *testing.T) {
	for i, x := range []struct {
		left, right, where string
		kinds              []int
		want               api.Errno
	}{
		{"@x + 0u8", "@x", "", []int{api.U8}, api.OK},
		{"@x + 0u8", "@x", "", kindsOf["integers, F32"], api.OK},
		{"@x + 0u8", "@x", "", []int{api.C64}, api.OK},
		{"@x + 0u8", "@x", "", []int{api.Bool}, api.ErrType},
		{"@x + 0u8", "@x", "", []int{api.U8, api.U8}, api.ErrOrder},
		{"@x + 0u8", "@x", "", []int{api.I8, api.U8}, api.ErrOrder},
		{"@x + 0u8", "@x", "", []int{api.I8, api.U8, 11}, api.ErrOrder},
		{"@x + 0u8", "@x", "", []int{11, 11}, api.ErrKind},
		{"@x + 0u8", "@x", "", []int{math.MinInt}, api.ErrKind},
		{"@x + 0u8", "@x", "", nil, api.ErrEmpty},
		{"@x", "@x", "", []int{api.U8}, api.ErrForm},
		{"@c", "1u8", "", []int{api.U8}, api.ErrForm},
		{"1u8", "1u8", "", []int{api.U8}, api.ErrState},
		{"!1u8", "1u8", "", []int{api.U8}, api.OK},
		{"@x + @x", "@x + @x", "", []int{api.U8}, api.ErrState},
		{"@n + @c", "@c + @n", "", []int{api.U8}, api.ErrState},
		{"@c + @n", "@n + @c", "", []int{api.U8}, api.OK},
		{"@c * @n", "@n - @c", "", []int{api.U8}, api.ErrState},
		{"@c - @n", "@n - @c", "", []int{api.U8}, api.ErrState},
		{"@c - @n", "@c + @n", "", []int{api.U8}, api.OK},
		{"!!!@x", "@x + @x", "", []int{api.U8}, api.ErrState},
		{"!!!!@x + @x", "@x + @x", "", []int{api.U8}, api.OK},
		{"!!!!@x", "@x + @x", "", []int{api.U8}, api.ErrState},
		{"!!!!(@x + @n)", "@n + @x", "", []int{api.U8}, api.OK},
		{"!!!!(@x + @n)", "@n + @n", "", []int{api.U8}, api.ErrState},
		{"!!!!(@x + @c)", "@c + @c * @c", "", []int{api.U8}, api.OK},
		{"@x + @y", "@x + 1u8", "", []int{api.U8}, api.OK},
		{"@x + 1u8", "@x + (1u8 + 2u8)", "", []int{api.U8}, api.ErrState},
		{"@x - 1u8", "@x + (1u8 + 2u8)", "", []int{api.U8}, api.OK},
		{"@x == @x", "true", "", kindsOf["all"], api.OK},
		{"@x == @x", "1u8", "", kindsOf["all"], api.ErrType},
		{"@x < @x", "true", "", kindsOf["all"], api.ErrType},
		{"@x + 0u8", "@x", "true", []int{api.U8}, api.OK},
		{"@x + 0u8", "@x", "1u8 == 2u8 % 3u8", []int{api.U8, api.F32}, api.ErrType},
		{"@x + 0u8", "@x", "1u8", []int{api.U8}, api.ErrType},
		{"@x + 0u8", "@x", "@x == 1u8", []int{api.U8}, api.ErrUnknown},
		{"@x + 0u8", "@x", "@c == 1u8", []int{api.U8}, api.ErrUnknown},
		{"@x + @d", "@x", "@d == 1u8", []int{api.U8}, api.OK},
		{"@x + @n", "@x", "@n == 1u8", []int{api.U8}, api.ErrUnknown},
		{"@x + @d", "@x", "@d.bool == true", []int{api.U8}, api.ErrType},
		{"select(@b, @x, @x)", "select(@b, @x, 1u8)", "", []int{api.U8}, api.OK},
		{"select(@b, @x, @x)", "u8(@x.bool)", "", []int{api.U8}, api.ErrType},
		{"select(@b, @x, @x)", "@y", "", []int{api.U8}, api.ErrUnknown},
		{"dist(@x, 0u8)", "@x", "", []int{api.U8, api.U16, api.U32, api.U64}, api.OK},
		{"dist(@x, 0u8)", "@x", "", []int{api.I8}, api.ErrType},
		{"u8(@x)", "@x", "", kindsOf["all"], api.OK},
		{"bool(@x)", "@x == @x", "", []int{api.C64}, api.ErrType},
		{"shuffle(@x, 0)", "@x", "", []int{api.C64}, api.OK},
		{"u16(@x)", "u16(1u8)", "", []int{api.U8}, api.ErrType},
	} {
		r := rule.Rule{Name: "r", Left: pattern(t, x.left), Right: pattern(t, x.right), Kinds: x.kinds}
		if x.where != "" {
			r.Where = pattern(t, x.where)
		}
		if err := rule.Check(r); err != x.want || err != wrongRule(r) {
			t.Error(i, x.left, x.right, err, x.want, wrongRule(r))
		}
	}
}

func TestWildcards(t *testing.T) {
	for s, want := range map[string]string{
		"@x / @c / @d": "x c d", "1u8": "", "@y": "y", "select(@b, @y, @x + @y)": "b y x", "@n + @c": "n c", "i32(@x) + 3": "x", "shuffle(@d, 0)": "d",
	} {
		l, err := rule.Wildcards(pattern(t, s))
		if strings.Join(l, " ") != want || err != api.OK {
			t.Error(s, l, err)
		}
	}
	for s, want := range map[string]api.Errno{
		"x": api.ErrForm, "f.u8(0)": api.ErrForm, "f.u8[0]": api.ErrForm, "f.u8{0}": api.ErrForm, "broadcast(@x, 2)": api.ErrForm, "ramp(0, 1, 2)": api.ErrForm,
		"shuffle(@x, 0, 0)": api.ErrForm, "reduce_add(broadcast(@x, 2))": api.ErrForm, "@z.u8": api.ErrName, "@xx.u8": api.ErrName, "@C.u8": api.ErrName, "@x + u8(@x.u16)": api.ErrType,
		"@x.u16 + u16(@x)": api.ErrType, "@q.u8 + u8(x)": api.ErrName, "u8(x) + @q.u8": api.ErrForm, "@x + u8(@x.u16) + @q.u8": api.ErrName,
	} {
		l, err := rule.Wildcards(pattern(t, s))
		if len(l) > 0 || err != want {
			t.Error(s, l, err, want)
		}
	}
	if _, err := rule.Wildcards(nil); err != api.ErrEmpty {
		t.Error("nothing", err)
	}
	if _, err := rule.Wildcards(make(api.Expr, 257)); err != api.ErrMany {
		t.Error("many", err)
	}
}

func TestInstance(t *testing.T) {
	for i, x := range []struct {
		name  string
		kind  int
		left  string
		right string
		where string
	}{
		{"mul_one", api.F32, "@x.f32 * 1p0f32", "@x.f32", ""},
		{"mul_one", api.C64, "@x.c64 * c64(1p0,0p0)", "@x.c64", ""},
		{"mul_one", api.U8, "@x.u8 * 1u8", "@x.u8", ""},
		{"xor_true", api.Bool, "@x.bool ^ true", "!@x.bool", ""},
		{"xor_true", api.I16, "@x.i16 ^ 1i16", "!@x.i16", ""},
		{"select_same", api.U64, "select(@b.bool, @x.u64, @x.u64)", "@x.u64", ""},
		{"eq_same", api.C64, "@x.c64 == @x.c64", "true", ""},
		{"max_of_min", api.I8, "max(min(@x.i8, @c.i8), @d.i8)", "@d.i8", "@c.i8 <= @d.i8"},
		{"select_true", api.Bool, "select(true, @x.bool, @y.bool)", "@x.bool", ""},
		{"cast_same", api.I32, "i32(@x.i32)", "@x.i32", ""},
	} {
		want := rule.Rule{Name: x.name, Left: parsed(t, x.left), Right: parsed(t, x.right), Kinds: []int{x.kind}}
		if x.where != "" {
			want.Where = parsed(t, x.where)
		}
		if r, err := rule.Instance(ruleNamed(t, x.name), x.kind); !sameRule(r, want) || err != api.OK {
			t.Error(i, r, err)
		}
	}
	for i, x := range []struct {
		name string
		kind int
		want api.Errno
	}{
		{"mul_one", api.Bool, api.ErrType}, {"mul_one", 11, api.ErrKind}, {"mul_one", -1, api.ErrKind}, {"mod_one", api.F32, api.ErrType}, {"and_same", api.C64, api.ErrType},
		{"dist_same", api.I8, api.ErrType}, {"lt_zero", api.C64, api.ErrType}, {"lt_zero", api.F32, api.OK}, {"max_of_min", api.C64, api.ErrType}, {"div_div", api.F32, api.OK}, {"sat_same", api.F32, api.ErrType},
	} {
		r, err := rule.Instance(ruleNamed(t, x.name), x.kind)
		if err != x.want || err != api.OK && !sameRule(r, rule.Rule{}) {
			t.Error("errors", i, r, err)
		}
	}
	// a rule that does not fall, and whose kinds do not fit, has instances
	r := rule.Rule{Name: "r", Left: pattern(t, "@x % @y"), Right: pattern(t, "@x % @y"), Kinds: []int{api.F32}}
	if i, err := rule.Instance(r, api.U16); err != api.OK || !expr.Same(i.Left, parsed(t, "@x.u16 % @y.u16")) {
		t.Error("not falling", i, err)
	}
	// the sides are right, the condition is not
	r = rule.Rule{Name: "r", Left: pattern(t, "@x + @c"), Right: pattern(t, "@x"), Where: pattern(t, "@c < 1u8"), Kinds: []int{api.U8}}
	if i, err := rule.Instance(r, api.C64); err != api.ErrType || !sameRule(i, rule.Rule{}) {
		t.Error("a condition", i, err)
	}
	r.Kinds = nil
	if i, err := rule.Instance(r, 99); err != api.ErrEmpty || !sameRule(i, rule.Rule{}) {
		t.Error("the rule is asked first", i, err)
	}
}

// TestCheckMade compares the checks of rules that are made of parts of others with the document's words.
func TestCheckMade(t *testing.T) {
	seen := map[api.Errno]int{}
	all := rule.Rules()
	for seed := range int64(6000) {
		m := newMaker(seed)
		r := all[m.Intn(len(all))]
		other := all[m.Intn(len(all))]
		for range 1 + m.Intn(3) {
			switch m.Intn(12) {
			case 0:
				r.Left = other.Left
			case 1:
				r.Right = other.Right
			case 2:
				r.Where = other.Where
			case 3:
				r.Where = all[[]int{15, 28, 52}[m.Intn(3)]].Where
			case 4:
				r.Left, r.Right = r.Right, r.Left
			case 5:
				r.Kinds = [][]int{nil, {0}, {1, 2}, {2, 1}, {9}, {10}, {11}, {-1}, {0, 1, 9, 10}, {5, 11, 4}}[m.Intn(10)]
			case 6:
				r.Name = []string{"", "a", "7", "ab c"}[m.Intn(4)]
			case 7:
				if expr.Check(r.Left) == api.OK {
					r.Left = put(api.Node{Op: api.ENot, Kind: r.Left[len(r.Left)-1].Kind, Lanes: 1}, r.Left)
				}
			case 8:
				if expr.Check(r.Right) == api.OK {
					r.Right = put(api.Node{Op: api.EAdd, Kind: r.Right[len(r.Right)-1].Kind, Lanes: 1}, r.Right, r.Right)
				}
			default:
				side := []*api.Expr{&r.Left, &r.Right, &r.Where}[m.Intn(3)]
				*side = m.spoilt(*side)
			}
		}
		want := wrongRule(r)
		seen[want]++
		if err := rule.Check(r); err != want {
			t.Fatal("Check", seed, r, err, want)
		}
		kind := m.Intn(13) - 1
		wantErr := early(r)
		if wantErr == api.OK && (kind < 0 || kind > 10) {
			wantErr = api.ErrKind
		}
		var wantRule rule.Rule
		if wantErr == api.OK {
			i, ok := instanceOf(r, kind)
			if wantRule = i; !ok {
				wantErr, wantRule = api.ErrType, rule.Rule{}
			}
		}
		if i, err := rule.Instance(r, kind); err != wantErr || !sameRule(i, wantRule) {
			t.Fatal("Instance", seed, r, kind, i, err, wantErr)
		}
	}
	for _, err := range []api.Errno{api.OK, api.ErrName, api.ErrEmpty, api.ErrForm, api.ErrType, api.ErrKind, api.ErrOrder, api.ErrUnknown, api.ErrState} {
		if seen[err] < 20 {
			t.Error("rare", err, seen)
		}
	}
}
