package simp_test

import (
	"fmt"
	"slices"
	"strings"
	"testing"

	"halation/api"
	"halation/expr"
	"halation/num"
	"halation/simp"
	"halation/span"
)

// told is what is known after a condition, in the document's words.
type told struct {
	list     []span.Known
	possible bool
	many     bool
}

// tell goes on with what the condition of a node tells, as long as something is possible.
func (x *told) tell(e api.Expr, node int) {
	if !x.possible || x.many {
		return
	}
	n := e[node]
	switch n.Op {
	case api.EAnd:
		x.tell(e, n.Kids[0])
		x.tell(e, n.Kids[1])
	case api.EConst:
		x.possible = n.Bits == 1
	case api.ELt, api.ELe, api.EEq:
		x.compare(e[n.Kids[0]], n.Op, e[n.Kids[1]])
	case api.ENot:
		kid := e[n.Kids[0]]
		if kid.Op == api.ELt || kid.Op == api.ELe { // !(a < b) is b <= a
			x.compare(e[kid.Kids[1]], api.ELt+api.ELe-kid.Op, e[kid.Kids[0]])
		}
	}
}

func (x *told) compare(a api.Node, op int, b api.Node) {
	isName := func(n api.Node) bool { return (n.Op == api.EVar || n.Op == api.EParam) && span.IsSmall(n.Kind) }
	one := 0
	if op == api.ELt {
		one = 1
	}
	switch {
	case isName(a) && b.Op == api.EConst:
		whole, _ := span.Whole(a.Kind)
		v, _ := num.Int(api.Value{Kind: b.Kind, Bits: b.Bits})
		if op == api.EEq {
			x.meet(a, int(v), int(v))
		} else {
			x.meet(a, whole.Low, int(v)-one)
		}
	case a.Op == api.EConst && isName(b):
		whole, _ := span.Whole(b.Kind)
		v, _ := num.Int(api.Value{Kind: a.Kind, Bits: a.Bits})
		if op == api.EEq {
			x.meet(b, int(v), int(v))
		} else {
			x.meet(b, int(v)+one, whole.High)
		}
	}
}

func (x *told) meet(n api.Node, low, high int) {
	whole, _ := span.Whole(n.Kind)
	at := -1
	for i, k := range x.list {
		if k.Op == n.Op && k.Name == n.Name {
			at = i
		}
	}
	if at < 0 {
		if len(x.list) == 256 {
			x.many = true
			return
		}
		at = len(x.list)
		x.list = append(x.list, span.Known{Op: n.Op, Name: n.Name, Span: whole})
	}
	now := x.list[at].Span
	now.Low, now.High = max(now.Low, whole.Low), min(now.High, whole.High)
	if now.Low > now.High {
		now = whole
	}
	now.Low, now.High = max(now.Low, low), min(now.High, high)
	x.list[at].Span = now
	x.possible = now.Low <= now.High
}

func assumed(l []span.Known, e api.Expr) ([]span.Known, bool, api.Errno) {
	x := told{slices.Clone(l), true, false}
	x.tell(e, len(e)-1)
	switch {
	case x.many:
		return nil, false, api.ErrMany
	case !x.possible:
		return nil, false, api.OK
	}
	return x.list, true, api.OK
}

// Promise P14.3.

func TestAssumeExamples(t *testing.T) {
	list := func(s string) []span.Known {
		var out []span.Known
		for cell := range strings.FieldsSeq(s) {
			k := span.Known{Op: api.EVar}
			if strings.HasPrefix(cell, "@") {
				k.Op = api.EParam
			}
			parts := strings.Split(strings.TrimPrefix(cell, "@"), ":")
			k.Name = parts[0]
			fmt.Sscan(parts[1], &k.Span.Low)
			fmt.Sscan(parts[2], &k.Span.High)
			out = append(out, k)
		}
		return out
	}
	const low, high = "-2147483648", "2147483647"
	for _, x := range []struct{ l, e, want string }{
		{"i:0:9", "(3 <= i) & (i < 5)", "i:3:4"}, {"i:0:9", "i == 12", ""}, {"i:0:9", "7 == i", "i:7:7"}, {"i:0:9", "i == 9", "i:9:9"}, {"i:0:9", "i == 0", "i:0:0"}, {"i:0:9", "i == 10", ""}, {"i:0:9", "i == -1", ""},
		{"i:0:9", "j < 4", "i:0:9 j:" + low + ":3"}, {"i:0:9", "4 < j", "i:0:9 j:5:" + high}, {"i:0:9", "j <= 4", "i:0:9 j:" + low + ":4"}, {"i:0:9", "4 <= j", "i:0:9 j:4:" + high},
		{"i:0:9", "i < 5", "i:0:4"}, {"i:0:9", "i <= 5", "i:0:5"}, {"i:0:9", "5 < i", "i:6:9"}, {"i:0:9", "5 <= i", "i:5:9"},
		{"i:0:9", "!(i < 5)", "i:5:9"}, {"i:0:9", "!(i <= 5)", "i:6:9"}, {"i:0:9", "!(5 < i)", "i:0:5"}, {"i:0:9", "!(5 <= i)", "i:0:4"},
		{"i:0:9", "i < 0", ""}, {"i:0:9", "i <= -1", ""}, {"i:0:9", "9 < i", ""}, {"i:0:9", "10 <= i", ""}, {"i:0:9", "i <= 0", "i:0:0"}, {"i:0:9", "9 <= i", "i:9:9"}, {"i:0:9", "i < 99", "i:0:9"},
		{"i:0:9", "i != 0", "i:0:9"}, {"i:0:9", "!(i == 0)", "i:0:9"}, {"i:0:9", "!(i != 0)", "i:0:9"}, {"i:0:9", "!!(i < 3)", "i:0:9"}, {"i:0:9", "(i < 3) | (i < 4)", "i:0:9"}, {"i:0:9", "(i < 3) ^ (i < 4)", "i:0:9"}, {"i:0:9", "i < j", "i:0:9"}, {"i:0:9", "3 < 4", "i:0:9"}, {"i:0:9", "4 < 3", "i:0:9"}, {"i:0:9", "i + 0 < 3", "i:0:9"}, {"i:0:9", "select(true, i < 3, false)", "i:0:9"}, {"i:0:9", "@q.bool", "i:0:9"}, {"i:0:9", "!@q.bool", "i:0:9"},
		{"i:0:9", "true", "i:0:9"}, {"i:0:9", "false", ""}, {"i:0:9", "!true", "i:0:9"}, {"i:0:9", "!false", "i:0:9"}, {"i:0:9", "(j < 3) & false", ""}, {"i:0:9", "false & (i < 3)", ""}, {"i:0:9", "true & (i < 3)", "i:0:2"}, {"i:0:9", "(i < 3) & true", "i:0:2"},
		{"i:0:9", "(i < 3) & (3 <= i)", ""}, {"i:0:9", "(i < 3) & (i < 2) & (j == 4)", "i:0:1 j:4:4"}, {"i:0:9", "(i < 3) & ((i < 7) & !(i < 1))", "i:1:2"}, {"", "(k < 3) & (j < 3) & (k < 2)", "k:" + low + ":1 j:" + low + ":2"},
		{"i:0:9", "j < " + low, ""}, {"i:0:9", high + " < j", ""}, {"i:0:9", "j <= " + high, "i:0:9 j:" + low + ":" + high}, {"i:0:9", "!(j < " + low + ")", "i:0:9 j:" + low + ":" + high}, {"i:0:9", "!(j <= " + high + ")", ""},
		{"i:0:9", "@p.f32 < 3p0f32", "i:0:9"}, {"i:0:9", "@p.u64 < 3u64", "i:0:9"}, {"i:0:9", "@p.i64 == 3i64", "i:0:9"}, {"i:0:9", "@i.u8 <= 4u8", "i:0:9 @i:0:4"}, {"i:0:9", "4u8 < @i.u8", "i:0:9 @i:5:255"}, {"", "@p.u32 == 4294967295u32", "@p:4294967295:4294967295"}, {"", "4294967295u32 < @p.u32", ""}, {"", "@p.u32 < 0u32", ""}, {"", "@b.bool == true", "@b:1:1"}, {"", "false == @b.bool", "@b:0:0"}, {"", "@p.i8 < -5i8", "@p:-128:-6"}, {"", "@p.i16 < -5i16", "@p:-32768:-6"}, {"", "@p.u16 < 5u16", "@p:0:4"},
		{"", "f.i32(0) < 3", ""}, {"", "f.i32[0] == 3", ""}, {"", "f.i32{0} == 3", ""},
		// what is known beyond the kind is first met with the whole span
		{"@p:300:400", "@p.u8 < 5u8", "@p:0:4"}, {"@p:200:400", "@p.u8 < 5u8", ""}, {"@p:200:400", "201u8 < @p.u8", "@p:202:255"}, {"@p:-9:400", "@p.u8 < 9u8", "@p:0:8"}, {"i:8589934592:8589934593", "i < 9", "i:" + low + ":8"}, {"@p:-9:9 j:-1099511627776:1099511627776", "j < 1", "@p:-9:9 j:" + low + ":0"}, {"i:-1099511627776:1099511627776", "j < 1", "i:-1099511627776:1099511627776 j:" + low + ":0"},
		// one name with two kinds
		{"", "(@p.u8 < 9u8) & (@p.i8 < 5i8)", "@p:0:4"}, {"", "(@p.u16 == 300u16) & (@p.u8 < 5u8)", "@p:0:4"},
		{"", "reduce_and(broadcast(i < 3, 2))", ""},
	} {
		e := parsed(t, x.e)
		tells := x.want != "" || strings.HasPrefix(x.e, "f.") || strings.HasPrefix(x.e, "reduce")
		l, ok, err := simp.Assume(list(x.l), e)
		if !slices.Equal(l, list(x.want)) || ok != tells || err != api.OK {
			t.Error(x.l, x.e, l, ok, err)
		}
	}
}

func TestAssumeErrors(t *testing.T) {
	bad := []span.Known{variable("i", 1, 0)}
	i, yes := parsed(t, "i"), parsed(t, "i < 3")
	lanes := parsed(t, "broadcast(true, 2)")
	for n, c := range []struct {
		l         []span.Known
		condition api.Expr
		want      api.Errno // of Assume
		under     api.Errno // of Under
	}{
		{bad, nil, api.ErrOrder, api.ErrEmpty}, {nil, nil, api.ErrEmpty, api.ErrEmpty}, {bad, i, api.ErrOrder, api.ErrType}, {nil, i, api.ErrType, api.ErrType}, {bad, lanes, api.ErrOrder, api.ErrVector}, {nil, lanes, api.ErrVector, api.ErrVector},
		{nil, parsed(t, "ramp(i, 1, 3)"), api.ErrType, api.ErrType}, {nil, make(api.Expr, 257), api.ErrMany, api.ErrMany}, {bad, yes, api.ErrOrder, api.ErrOrder}, {make([]span.Known, 257), yes, api.ErrMany, api.ErrMany}, {nil, yes, api.OK, api.OK}, {nil, parsed(t, "false"), api.OK, api.ErrConflict},
	} {
		l, ok, err := simp.Assume(c.l, c.condition)
		if err != c.want || err != api.OK && (ok || len(l) > 0) {
			t.Error("Assume", n, l, ok, err)
		}
		out, err := simp.Under(i, c.condition, c.l)
		if err != c.under || (err == api.OK) != (len(out) > 0) {
			t.Error("Under", n, out, err)
		}
		if out, err := simp.Under(nil, c.condition, c.l); len(out) > 0 || err != api.ErrEmpty {
			t.Error("Under nothing", n, out, err)
		}
	}
}

// TestAssumeMany has as much known as there may be.
func TestAssumeMany(t *testing.T) {
	var full []span.Known
	for n := range 256 {
		full = append(full, variable(fmt.Sprint("v", n), 0, 9))
	}
	for i, c := range []struct {
		l    []span.Known
		e    string
		want api.Errno
		ok   bool
	}{
		{full, "v7 < 3", api.OK, true}, {full, "w < 3", api.ErrMany, false}, {full[:255], "w < 3", api.OK, true}, {full[:255], "(w < 3) & (u < 3)", api.ErrMany, false}, {full, "@v7.i32 < 3", api.ErrMany, false}, {full, "w < u", api.OK, true},
		{full, "w < -2147483648", api.ErrMany, false}, {full, "(v7 < 0) & (w < 3)", api.OK, false}, {full, "(w < 3) & (v7 < 0)", api.ErrMany, false}, {full, "false & (w < 3)", api.OK, false}, {full, "(v7 < 3) & (v8 < 3)", api.OK, true},
	} {
		l, ok, err := simp.Assume(c.l, parsed(t, c.e))
		if ok != c.ok || err != c.want || !ok && len(l) > 0 {
			t.Error(i, len(l), ok, err)
		}
		want := c.want
		if want == api.OK && !ok {
			want = api.ErrConflict
		}
		if _, err := simp.Under(parsed(t, "i"), parsed(t, c.e), c.l); err != want {
			t.Error("Under", i, err, want)
		}
	}
}

func TestUnder(t *testing.T) {
	for _, x := range []struct {
		e, condition, want string
		err                api.Errno
	}{
		{"min(i, 3)", "3 <= i", "3", api.OK}, {"min(i, 3)", "i < j", "min(i, 3)", api.OK}, {"i", "i == 12", "", api.ErrConflict}, {"i", "false", "", api.ErrConflict}, {"select(j < 4, 1, 2)", "j <= 3", "1", api.OK}, {"select(j < 4, 1, 2)", "!(j < 4)", "2", api.OK},
		{"i + j", "(i == 3) & (j == 4)", "7", api.OK}, {"j + i", "i == 3", "j + 3", api.OK}, {"@q.u8 / 16u8", "@q.u8 < 16u8", "0u8", api.OK},
	} {
		out, err := simp.Under(parsed(t, x.e), parsed(t, x.condition), exampleKnown())
		if err != x.err || err == api.OK && text(out) != x.want || err != api.OK && len(out) > 0 {
			t.Error(x.e, x.condition, text(out), err)
		}
	}
}

// condition makes a condition that often tells something.
func (m maker) condition(depth int) api.Expr {
	flag := func(op int, kids ...api.Expr) api.Expr {
		return put(api.Node{Op: op, Kind: api.Bool, Lanes: 1}, kids...)
	}
	if depth > 0 {
		switch m.Intn(6) {
		case 0, 1, 2:
			return flag(api.EAnd, m.condition(depth-1), m.condition(depth-1))
		case 3:
			return flag(api.ENot, m.condition(depth-1))
		case 4:
			return flag([]int{api.EOr, api.EXor}[m.Intn(2)], m.condition(depth-1), m.condition(depth-1))
		}
	}
	kind := []int{api.I32, api.I32, m.Intn(api.C64)}[m.Intn(3)]
	op := api.EEq + m.Intn(4)
	if kind == api.Bool {
		op = api.EEq
	}
	a, b := m.leaf(kind), m.constant(kind)
	if n := a[0]; span.IsSmall(kind) && m.Intn(3) > 0 {
		v, _ := num.Wrap(kind, int64(m.Intn(20)-10))
		b, _ = expr.Const(v)
		a = api.Expr{n}
	}
	switch m.Intn(12) {
	case 0:
		return m.constant(api.Bool)
	case 1:
		b = m.leaf(kind)
	}
	if m.Intn(2) == 0 {
		a, b = b, a
	}
	return flag(op, a, b)
}

func TestAssumeMade(t *testing.T) {
	seen := map[bool]int{}
	for seed := range int64(20000) {
		m := newMaker(seed)
		e, l := m.condition(3), m.known()
		want, wantOK, wantErr := assumed(l, e)
		got, ok, err := simp.Assume(l, e)
		if !slices.Equal(got, want) || ok != wantOK || err != wantErr {
			t.Fatal(seed, text(e), l, got, ok, err, want)
		}
		seen[ok]++
	}
	if seen[true] < 1000 || seen[false] < 1000 {
		t.Error("rare", seen)
	}
}
