package rule_test

import (
	"slices"
	"strings"
	"testing"

	"halation/api"
	"halation/expr"
	"halation/lang"
	"halation/rule"
)

// table is the document's.
const table = `
0 add_zero; @x + 0u8; @x; ; integers, F32
1 add_left; @c + @n; @n + @c; ; integers, F32
2 add_add; @x + @c + @d; @x + (@c + @d); ; integers
3 add_sub; @x + @y - @y; @x; ; integers
4 add_sub_left; @x + @y - @x; @y; ; integers
5 sub_add; @x - @y + @y; @x; ; integers
6 sub_same; @x - @x; 0u8; ; integers, F32
7 sub_const; @x - @c; @x + (0u8 - @c); ; integers
8 mul_zero; @x * 0u8; 0u8; ; integers, F32
9 mul_one; @x * 1u8; @x; ; integers, F32
10 mul_left; @c * @n; @n * @c; ; integers, F32
11 mul_mul; @x * @c * @d; @x * (@c * @d); ; integers
12 div_one; @x / 1u8; @x; ; integers, F32
13 div_zero; @x / 0u8; 0u8; ; integers, F32
14 zero_div; 0u8 / @x; 0u8; ; integers, F32
15 div_div; @x / @c / @d; @x / (@c * @d); (@c * @d / @d == @c) & (0u8 < @c) & (0u8 < @d); integers
16 mod_one; @x % 1u8; 0u8; ; integers
17 mod_zero; @x % 0u8; 0u8; ; integers
18 zero_mod; 0u8 % @x; 0u8; ; integers
19 mod_mod; @x % @c % @c; @x % @c; ; integers
20 min_same; min(@x, @x); @x; ; integers, F32
21 max_same; max(@x, @x); @x; ; integers, F32
22 min_left; min(@c, @n); min(@n, @c); ; integers, F32
23 max_left; max(@c, @n); max(@n, @c); ; integers, F32
24 min_min; min(min(@x, @c), @d); min(@x, min(@c, @d)); ; integers, F32
25 max_max; max(max(@x, @c), @d); max(@x, max(@c, @d)); ; integers, F32
26 min_max; min(@x, max(@x, @y)); @x; ; integers, F32
27 max_min; max(@x, min(@x, @y)); @x; ; integers, F32
28 max_of_min; max(min(@x, @c), @d); @d; @c <= @d; integers, F32
29 min_of_max; min(max(@x, @c), @d); @d; @d <= @c; integers, F32
30 and_same; @x & @x; @x; ; Bool, integers
31 or_same; @x | @x; @x; ; Bool, integers
32 xor_same; @x ^ @x; 0u8; ; Bool, integers
33 and_zero; @x & 0u8; 0u8; ; Bool, integers
34 or_zero; @x | 0u8; @x; ; Bool, integers
35 xor_zero; @x ^ 0u8; @x; ; Bool, integers
36 and_left; @c & @n; @n & @c; ; Bool, integers
37 or_left; @c | @n; @n | @c; ; Bool, integers
38 xor_left; @c ^ @n; @n ^ @c; ; Bool, integers
39 and_and; @x & @c & @d; @x & (@c & @d); ; Bool, integers
40 or_or; @x | @c | @d; @x | (@c | @d); ; Bool, integers
41 xor_xor; @x ^ @c ^ @d; @x ^ (@c ^ @d); ; Bool, integers
42 and_or; @x & (@x | @y); @x; ; Bool, integers
43 or_and; @x | @x & @y; @x; ; Bool, integers
44 and_true; @x & 1u8; @x; ; Bool
45 or_true; @x | 1u8; 1u8; ; Bool
46 xor_true; @x ^ 1u8; !@x; ; Bool
47 not_not; !!@x; @x; ; Bool, integers
48 shl_zero; @x << 0u8; @x; ; integers
49 shr_zero; @x >> 0u8; @x; ; integers
50 zero_shl; 0u8 << @x; 0u8; ; integers
51 zero_shr; 0u8 >> @x; 0u8; ; integers
52 shl_shl; @x << @c << @d; @x << (@c + @d); @c <= @c + @d; unsigned integers
53 shr_shr; @x >> @c >> @d; @x >> (@c + @d); @c <= @c + @d; unsigned integers
54 sat_add_zero; sat_add(@x, 0u8); @x; ; integers
55 sat_sub_zero; sat_sub(@x, 0u8); @x; ; integers
56 sat_sub_same; sat_sub(@x, @x); 0u8; ; integers
57 avg_same; avg(@x, @x); @x; ; integers
58 dist_same; dist(@x, @x); 0u8; ; unsigned integers
59 dist_zero; dist(@x, 0u8); @x; ; unsigned integers
60 eq_same; @x == @x; true; ; all
61 ne_same; @x != @x; false; ; all
62 lt_same; @x < @x; false; ; integers, F32
63 le_same; @x <= @x; true; ; integers, F32
64 eq_left; @c == @n; @n == @c; ; all
65 ne_left; @c != @n; @n != @c; ; all
66 lt_zero; @x < 0u8; false; ; unsigned integers
67 zero_le; 0u8 <= @x; true; ; unsigned integers
68 not_eq; !(@x == @y); @x != @y; ; all
69 not_ne; !(@x != @y); @x == @y; ; all
70 not_lt; !(@x < @y); @y <= @x; ; integers, F32
71 not_le; !(@x <= @y); @y < @x; ; integers, F32
72 eq_add; @x + @c == @d; @x == @d - @c; ; integers
73 eq_zero; @x - @y == 0u8; @x == @y; ; integers
74 select_true; select(true, @x, @y); @x; ; all
75 select_false; select(false, @x, @y); @y; ; all
76 select_same; select(@b, @x, @x); @x; ; all
77 select_not; select(!@b, @x, @y); select(@b, @y, @x); ; all
78 select_lt; select(@x < @y, @x, @y); min(@x, @y); ; integers, F32
79 select_gt; select(@y < @x, @x, @y); max(@x, @y); ; integers, F32
80 cast_same; u8(@x); @x; ; all
81 sat_same; sat_u8(@x); @x; ; integers
`

var kindsOf = map[string][]int{
	"all":               {api.Bool, api.U8, api.U16, api.U32, api.U64, api.I8, api.I16, api.I32, api.I64, api.F32, api.C64},
	"integers, F32":     {api.U8, api.U16, api.U32, api.U64, api.I8, api.I16, api.I32, api.I64, api.F32},
	"integers":          {api.U8, api.U16, api.U32, api.U64, api.I8, api.I16, api.I32, api.I64},
	"Bool, integers":    {api.Bool, api.U8, api.U16, api.U32, api.U64, api.I8, api.I16, api.I32, api.I64},
	"unsigned integers": {api.U8, api.U16, api.U32, api.U64},
	"Bool":              {api.Bool},
}

// decls give the kinds of patterns' wildcards: of b Bool, of the others the given one.
func decls(kind int) []lang.Decl {
	out := []lang.Decl{{Op: api.EParam, Name: "b", Kind: api.Bool}}
	for _, name := range []string{"c", "d", "n", "x", "y"} {
		out = append(out, lang.Decl{Op: api.EParam, Name: name, Kind: kind})
	}
	return out
}

// pattern returns the pattern of a text, whose wildcards are of U8.
func pattern(t *testing.T, s string) api.Expr {
	t.Helper()
	e, at, err := lang.Parse(s, decls(api.U8))
	if err != api.OK {
		t.Fatal("Parse", s, at, err)
	}
	return e
}

// parsed returns the expression of a text.
func parsed(t *testing.T, s string) api.Expr {
	t.Helper()
	e, at, err := lang.Parse(s, nil)
	if err != api.OK {
		t.Fatal("Parse", s, at, err)
	}
	return e
}

func ruleNamed(t *testing.T, name string) rule.Rule {
	t.Helper()
	for _, r := range rule.Rules() {
		if r.Name == name {
			return r
		}
	}
	t.Fatal("no rule", name)
	return rule.Rule{}
}

// Promise P13.1.

func TestRules(t *testing.T) {
	l := rule.Rules()
	lines := strings.Split(strings.TrimSpace(table), "\n")
	if len(l) != 82 || len(lines) != 82 {
		t.Fatal(len(l), len(lines))
	}
	for i, line := range lines {
		cells := strings.Split(line, "; ")
		if len(cells) != 5 {
			t.Fatal(line)
		}
		_, name, _ := strings.Cut(cells[0], " ")
		r := l[i]
		if r.Name != name || !expr.Same(r.Left, pattern(t, cells[1])) || !expr.Same(r.Right, pattern(t, cells[2])) || !slices.Equal(r.Kinds, kindsOf[cells[4]]) {
			t.Error(i, name, r)
		}
		if cells[3] == "" && len(r.Where) > 0 || cells[3] != "" && !expr.Same(r.Where, pattern(t, cells[3])) {
			t.Error("Where", i, name, r.Where)
		}
		if err := rule.Check(r); err != api.OK {
			t.Error("Check", i, name, err)
		}
	}
}

// TestHoldsAll asks each rule with many values of all its kinds.
func TestHoldsAll(t *testing.T) {
	m := newMaker(1)
	for _, r := range rule.Rules() {
		for _, kind := range r.Kinds {
			i, _ := rule.Instance(r, kind)
			names, _ := rule.Wildcards(i.Left)
			for range 80 {
				var l []expr.Binding
				for _, name := range names {
					l = append(l, expr.Binding{Name: name, Value: m.value(kindIn(i.Left, name))})
				}
				if ok, err := rule.Holds(r, kind, l); !ok || err != api.OK {
					t.Fatal(r.Name, kind, l, ok, err)
				}
			}
		}
	}
}

// TestHoldsBytes asks each rule with one wildcard with all values of one byte, the others with some that are evenly spread.
func TestHoldsBytes(t *testing.T) {
	for _, r := range rule.Rules() {
		for _, kind := range []int{api.U8, api.I8} {
			names, _ := rule.Wildcards(r.Left)
			if !slices.Contains(r.Kinds, kind) {
				continue
			}
			i, err := rule.Instance(r, kind)
			if err != api.OK {
				t.Fatal(r.Name, err)
			}
			step := []int{1, 1, 7, 29}[len(names)]
			holdsEach(t, i, kind, names, nil, step)
		}
	}
}

func holdsEach(t *testing.T, i rule.Rule, kind int, names []string, l []expr.Binding, step int) {
	t.Helper()
	if len(names) == 0 {
		if ok, err := rule.Holds(i, kind, l); !ok && err == api.OK {
			t.Fatal(i.Name, kind, l)
		}
		return
	}
	wanted := kindIn(i.Left, names[0])
	for n := 0; n < 256; n += step {
		if wanted == api.Bool && n > 1 {
			return
		}
		v := api.Value{Kind: wanted, Bits: uint64(n)}
		holdsEach(t, i, kind, names[1:], append(slices.Clone(l), expr.Binding{Name: names[0], Value: v}), step)
	}
}

func kindIn(e api.Expr, name string) int {
	for _, n := range e {
		if n.Op == api.EParam && n.Name == name {
			return n.Kind
		}
	}
	return -1
}
