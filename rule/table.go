package rule

import (
	"slices"
	"strings"

	"halation/api"
	"halation/lang"
	"halation/list"
)

// The sets of kinds for which rules are.
const (
	all = iota
	numbers
	integers
	unsigned
	bits
	flags
)

// ends are the first and the last kind of each set.
var ends = [...][2]int{
	all:      {api.Bool, api.C64},
	numbers:  {api.U8, api.F32},
	integers: {api.U8, api.I64},
	unsigned: {api.U8, api.U64},
	bits:     {api.Bool, api.I64},
	flags:    {api.Bool, api.Bool},
}

// row is a rule by its texts.
type row struct {
	name, left, right, where string
	kinds                    int
}

// Rules returns the rules of this chapter.
func Rules() []Rule {
	rows := slices.Concat(sumRules(), productRules(), extremeRules(), bitRules(), distanceRules(), comparisonRules(), choiceRules())
	return list.Map(rows, row.rule)
}

func (r row) rule() Rule {
	l := parsed(r.left, r.right, r.where)
	out := Rule{Name: r.name, Left: l[0], Right: l[1]}
	if len(l) > 2 {
		out.Where = l[2]
	}
	for kind := ends[r.kinds][0]; kind <= ends[r.kinds][1]; kind++ {
		out.Kinds = append(out.Kinds, kind)
	}
	return out
}

// parsed returns the patterns of texts, of which the last one may be empty. They are read as one list, which is less work.
func parsed(texts ...string) []api.Expr {
	decls := []lang.Decl{{Op: api.EParam, Name: "b", Kind: api.Bool}}
	for _, name := range "cdnxy" {
		decls = append(decls, lang.Decl{Op: api.EParam, Name: string(name), Kind: api.U8})
	}
	l, _, _ := lang.ParseList(strings.TrimSuffix(strings.Join(texts, ", "), ", "), decls)
	return l
}

// sumRules are the rules of sums and differences.
func sumRules() []row {
	return []row{
		{"add_zero", "@x + 0u8", "@x", "", numbers},
		{"add_left", "@c + @n", "@n + @c", "", numbers},
		{"add_add", "@x + @c + @d", "@x + (@c + @d)", "", integers},
		{"add_sub", "@x + @y - @y", "@x", "", integers},
		{"add_sub_left", "@x + @y - @x", "@y", "", integers},
		{"sub_add", "@x - @y + @y", "@x", "", integers},
		{"sub_same", "@x - @x", "0u8", "", numbers},
		{"sub_const", "@x - @c", "@x + (0u8 - @c)", "", integers},
	}
}

// productRules are the rules of products, quotients and remainders.
func productRules() []row {
	return []row{
		{"mul_zero", "@x * 0u8", "0u8", "", numbers},
		{"mul_one", "@x * 1u8", "@x", "", numbers},
		{"mul_left", "@c * @n", "@n * @c", "", numbers},
		{"mul_mul", "@x * @c * @d", "@x * (@c * @d)", "", integers},
		{"div_one", "@x / 1u8", "@x", "", numbers},
		{"div_zero", "@x / 0u8", "0u8", "", numbers},
		{"zero_div", "0u8 / @x", "0u8", "", numbers},
		{"div_div", "@x / @c / @d", "@x / (@c * @d)", "(@c * @d / @d == @c) & (0u8 < @c) & (0u8 < @d)", integers},
		{"mod_one", "@x % 1u8", "0u8", "", integers},
		{"mod_zero", "@x % 0u8", "0u8", "", integers},
		{"zero_mod", "0u8 % @x", "0u8", "", integers},
		{"mod_mod", "@x % @c % @c", "@x % @c", "", integers},
	}
}

// extremeRules are the rules of the less and the greater one.
func extremeRules() []row {
	return []row{
		{"min_same", "min(@x, @x)", "@x", "", numbers},
		{"max_same", "max(@x, @x)", "@x", "", numbers},
		{"min_left", "min(@c, @n)", "min(@n, @c)", "", numbers},
		{"max_left", "max(@c, @n)", "max(@n, @c)", "", numbers},
		{"min_min", "min(min(@x, @c), @d)", "min(@x, min(@c, @d))", "", numbers},
		{"max_max", "max(max(@x, @c), @d)", "max(@x, max(@c, @d))", "", numbers},
		{"min_max", "min(@x, max(@x, @y))", "@x", "", numbers},
		{"max_min", "max(@x, min(@x, @y))", "@x", "", numbers},
		{"max_of_min", "max(min(@x, @c), @d)", "@d", "@c <= @d", numbers},
		{"min_of_max", "min(max(@x, @c), @d)", "@d", "@d <= @c", numbers},
	}
}

// bitRules are the rules bit by bit, and of shifts.
func bitRules() []row {
	return []row{
		{"and_same", "@x & @x", "@x", "", bits},
		{"or_same", "@x | @x", "@x", "", bits},
		{"xor_same", "@x ^ @x", "0u8", "", bits},
		{"and_zero", "@x & 0u8", "0u8", "", bits},
		{"or_zero", "@x | 0u8", "@x", "", bits},
		{"xor_zero", "@x ^ 0u8", "@x", "", bits},
		{"and_left", "@c & @n", "@n & @c", "", bits},
		{"or_left", "@c | @n", "@n | @c", "", bits},
		{"xor_left", "@c ^ @n", "@n ^ @c", "", bits},
		{"and_and", "@x & @c & @d", "@x & (@c & @d)", "", bits},
		{"or_or", "@x | @c | @d", "@x | (@c | @d)", "", bits},
		{"xor_xor", "@x ^ @c ^ @d", "@x ^ (@c ^ @d)", "", bits},
		{"and_or", "@x & (@x | @y)", "@x", "", bits},
		{"or_and", "@x | @x & @y", "@x", "", bits},
		{"and_true", "@x & 1u8", "@x", "", flags},
		{"or_true", "@x | 1u8", "1u8", "", flags},
		{"xor_true", "@x ^ 1u8", "!@x", "", flags},
		{"not_not", "!!@x", "@x", "", bits},
		{"shl_zero", "@x << 0u8", "@x", "", integers},
		{"shr_zero", "@x >> 0u8", "@x", "", integers},
		{"zero_shl", "0u8 << @x", "0u8", "", integers},
		{"zero_shr", "0u8 >> @x", "0u8", "", integers},
		{"shl_shl", "@x << @c << @d", "@x << (@c + @d)", "@c <= @c + @d", unsigned},
		{"shr_shr", "@x >> @c >> @d", "@x >> (@c + @d)", "@c <= @c + @d", unsigned},
	}
}

// distanceRules are the rules of saturated sums, averages and distances.
func distanceRules() []row {
	return []row{
		{"sat_add_zero", "sat_add(@x, 0u8)", "@x", "", integers},
		{"sat_sub_zero", "sat_sub(@x, 0u8)", "@x", "", integers},
		{"sat_sub_same", "sat_sub(@x, @x)", "0u8", "", integers},
		{"avg_same", "avg(@x, @x)", "@x", "", integers},
		{"dist_same", "dist(@x, @x)", "0u8", "", unsigned},
		{"dist_zero", "dist(@x, 0u8)", "@x", "", unsigned},
	}
}

// comparisonRules are the rules of comparisons.
func comparisonRules() []row {
	return []row{
		{"eq_same", "@x == @x", "true", "", all},
		{"ne_same", "@x != @x", "false", "", all},
		{"lt_same", "@x < @x", "false", "", numbers},
		{"le_same", "@x <= @x", "true", "", numbers},
		{"eq_left", "@c == @n", "@n == @c", "", all},
		{"ne_left", "@c != @n", "@n != @c", "", all},
		{"lt_zero", "@x < 0u8", "false", "", unsigned},
		{"zero_le", "0u8 <= @x", "true", "", unsigned},
		{"not_eq", "!(@x == @y)", "@x != @y", "", all},
		{"not_ne", "!(@x != @y)", "@x == @y", "", all},
		{"not_lt", "!(@x < @y)", "@y <= @x", "", numbers},
		{"not_le", "!(@x <= @y)", "@y < @x", "", numbers},
		{"eq_add", "@x + @c == @d", "@x == @d - @c", "", integers},
		{"eq_zero", "@x - @y == 0u8", "@x == @y", "", integers},
	}
}

// choiceRules are the rules of selects and casts.
func choiceRules() []row {
	return []row{
		{"select_true", "select(true, @x, @y)", "@x", "", all},
		{"select_false", "select(false, @x, @y)", "@y", "", all},
		{"select_same", "select(@b, @x, @x)", "@x", "", all},
		{"select_not", "select(!@b, @x, @y)", "select(@b, @y, @x)", "", all},
		{"select_lt", "select(@x < @y, @x, @y)", "min(@x, @y)", "", numbers},
		{"select_gt", "select(@y < @x, @x, @y)", "max(@x, @y)", "", numbers},
		{"cast_same", "u8(@x)", "@x", "", all},
		{"sat_same", "sat_u8(@x)", "@x", "", integers},
	}
}
