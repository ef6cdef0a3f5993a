// Package site has what layers do with the variables of the loops of a path, the first of which are those of a site.
package site

import (
	"strconv"

	"halation/affine"
	"halation/api"
	"halation/list"
)

// MaxLoops is how many loops an argument may have.
const MaxLoops = 100

// Variable returns the name of the variable of the loop with an index.
func Variable(i int) string {
	return "s" + strconv.Itoa(i)
}

// Number returns which of the first n loops has the variable with a name, and whether one of them has it.
func Number(name string, n int) (int, bool) {
	i := 0
	for at, c := range name {
		if at > 0 {
			i = min(i*10+int(c-'0'), n)
		}
	}
	return i, i < n && name == Variable(i)
}

// Loop returns which of the first n loops has an atom as its variable, and whether one of them has it.
func Loop(atom api.Expr, n int) (int, bool) {
	if len(atom) != 1 || atom[0].Op != api.EVar {
		return 0, false
	}
	return Number(atom[0].Name, n)
}

// FormError returns the error of a form whose atoms have to be the variables of the first n loops.
func FormError(f affine.Form, n int) api.Errno {
	if err := affine.Check(f); err != api.OK {
		return err
	}
	return list.FirstError(list.Map(f.Terms, func(t affine.Term) api.Errno {
		_, ok := Loop(t.Atom, n)
		return list.ErrorIf(!ok, api.ErrUnknown)
	})...)
}

// Value returns the value of a right form for values of the loops: a number of I32, as those of all forms are.
func Value(f affine.Form, values []int) int {
	sum := f.Const
	for _, t := range f.Terms {
		i, _ := Loop(t.Atom, len(values))
		sum += t.Coeff * values[i] // what is lost beyond an int does not change the number of I32
	}
	return int(int32(sum))
}

// ValuesError returns the error of values of loops with these extents, which go from 0 on.
func ValuesError(values, extents []int) api.Errno {
	if len(values) != len(extents) {
		return api.ErrShape
	}
	for i, v := range values {
		if v < 0 || v >= extents[i] {
			return api.ErrRange
		}
	}
	return api.OK
}

// Box returns the box from 0 on with these extents.
func Box(extents []int) api.Box {
	return list.Map(extents, func(n int) api.Range { return api.Range{Extent: n} })
}
