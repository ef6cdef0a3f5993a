package affine

import (
	"cmp"
	"slices"
	"strconv"

	"halation/api"
	"halation/expr"
	"halation/list"
)

// expression is an expression that is compared with others.
type expression api.Expr

// compare orders right expressions. One that is empty is before all others.
func (a expression) compare(b expression) int {
	if len(a) != len(b) {
		return cmp.Compare(len(a), len(b))
	}
	for i := range len(a) {
		if order := compareNodes(a[i], b[i]); order != 0 {
			return order
		}
	}
	return 0
}

// numbers are those by which nodes are compared first. The order of the kids' numbers adds nothing: in post-order they
// follow from how many there are.
type numbers [4]int

func numbersOf(n api.Node) numbers {
	return numbers{n.Op, n.Kind, n.Lanes, len(n.Kids)}
}

func compareNodes(m, n api.Node) int {
	if p, q := numbersOf(m), numbersOf(n); p != q {
		return slices.Compare(p[:], q[:])
	}
	return cmp.Or(cmp.Compare(m.Bits, n.Bits), cmp.Compare(m.Name, n.Name), slices.Compare(m.Picks, n.Picks))
}

// Compare compares two expressions.
func Compare(a, b api.Expr) (int, api.Errno) {
	if err := list.FirstError(expr.Check(a), expr.Check(b)); err != api.OK {
		return 0, err
	}
	return expression(a).compare(expression(b)), api.OK
}

// compare orders terms by their atoms.
func (t Term) compare(u Term) int {
	return expression(t.Atom).compare(expression(u.Atom))
}

// key returns a string that just the expressions have that are equal to this one.
func (a expression) key() string {
	var out []byte
	for _, n := range a {
		for _, number := range numbersOf(n) {
			out = append(strconv.AppendInt(out, int64(number), 10), ' ')
		}
		out = append(strconv.AppendUint(out, n.Bits, 10), ' ')
		out = append(append(out, n.Name...), ' ')
		for _, pick := range n.Picks {
			out = append(strconv.AppendInt(out, int64(pick), 10), ',')
		}
		out = append(out, ';')
	}
	return string(out)
}
