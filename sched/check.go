package sched

import (
	"slices"

	"halation/api"
	"halation/expr"
	"halation/list"
	"halation/pipe"
)

// span is the numbers from one to another one.
type span [2]int

// stages are those that directives may be about.
var stages = span{0, api.MaxUpdates}

func (s span) has(n int) bool {
	return n >= s[0] && n <= s[1]
}

// admits reports whether a line may have so many words. Where their number is open, too many of them are a line, too.
func (s span) admits(count int) bool {
	if s == (span{s[0], s[0]}) {
		return count == s[0]
	}
	return count >= s[0]
}

// CheckDirective returns the first error of the form of a directive, or OK.
func CheckDirective(d api.Directive) api.Errno {
	if !isOp(d.Op) {
		return api.ErrUnknown
	}
	f := formOf(d.Op)
	err := list.FirstError(
		list.ErrorIf(!expr.IsName(d.Func), api.ErrName),
		list.ErrorIf(!stages.has(d.Stage), api.ErrRange),
		list.ErrorIf(!f.loops && d.Stage != 0, api.ErrState),
		list.ErrorIf(!f.vars.has(len(d.Vars)), api.ErrShape))
	if err != api.OK {
		return err
	}
	return list.FirstError(
		varsError(d.Vars),
		list.ErrorIf(!f.factor.has(d.Factor), api.ErrRange),
		list.ErrorIf(!f.tail.has(d.Tail), api.ErrTail),
		list.ErrorIf(!f.low.has(d.Low), api.ErrRange),
		list.ErrorIf(f.at && !expr.IsName(d.At) || !f.at && d.At != "", api.ErrName))
}

// varsError returns the error of the first variable with one.
func varsError(vars []string) api.Errno {
	for i, v := range vars {
		if err := list.FirstError(list.ErrorIf(!expr.IsName(v), api.ErrName), list.ErrorIf(slices.Contains(vars[:i], v), api.ErrTwice)); err != api.OK {
			return err
		}
	}
	return api.OK
}

// claim is what just one directive may say: an Op for all that exclude each other, and the variable, if it counts.
type claim struct {
	function string
	op       int
	variable string
}

// claimOf returns the claim of a right directive, if it has one.
func claimOf(d api.Directive) (claim, bool) {
	switch d.Op {
	case api.ComputeRoot, api.ComputeAt:
		return claim{d.Func, api.ComputeRoot, ""}, true
	case api.StoreRoot, api.StoreAt:
		return claim{d.Func, api.StoreRoot, ""}, true
	case api.Memoize:
		return claim{d.Func, d.Op, ""}, true
	case api.Fold, api.Bound:
		return claim{d.Func, d.Op, d.Vars[0]}, true
	}
	return claim{}, false
}

// isExcluded reports whether a right directive is excluded by a right one of a list.
func isExcluded(d api.Directive, l []api.Directive) bool {
	own, _ := claimOf(d) // without one it is like no other's
	found := false
search:
	for _, other := range l {
		if c, ok := claimOf(other); ok && c == own {
			found = true
			break search
		}
	}
	return found
}

// Check returns the index of the first wrong directive of a schedule, and the error.
func Check(s api.Schedule) (int, api.Errno) {
	if len(s) > api.MaxLines {
		return 0, api.ErrMany
	}
	for i, d := range s {
		if err := CheckDirective(d); err != api.OK {
			return i, err
		}
		if isExcluded(d, s[:i]) {
			return i, api.ErrTwice
		}
	}
	return 0, api.OK
}

// functionsOf returns the indices of a pipeline's functions.
func functionsOf(p api.Pipeline) map[string]int {
	index := map[string]int{}
	for i, fn := range p.Funcs {
		index[fn.Name] = i
	}
	return index
}

// CheckFor returns the index of the first directive that does not fit a pipeline, and the error.
func CheckFor(p api.Pipeline, s api.Schedule) (int, api.Errno) {
	if _, err := pipe.Check(p); err != api.OK {
		return 0, err
	}
	if i, err := Check(s); err != api.OK {
		return i, err
	}
	index := functionsOf(p)
	for i, d := range s {
		if err := fitError(p, index, d); err != api.OK {
			return i, err
		}
	}
	return 0, api.OK
}

// fitError returns the error of a right directive for a right pipeline.
func fitError(p api.Pipeline, index map[string]int, d api.Directive) api.Errno {
	f, ok := index[d.Func]
	if !ok || d.Stage > len(p.Funcs[f].Updates) {
		return api.ErrUnknown
	}
	if f == len(p.Funcs)-1 && isPlacing(d.Op) {
		return api.ErrKind
	}
	if d.At != "" {
		at, ok := index[d.At]
		return list.FirstError(list.ErrorIf(!ok, api.ErrUnknown), list.ErrorIf(at <= f, api.ErrOrder))
	}
	isOfDimension := d.Op == api.Fold || d.Op == api.Bound
	return list.ErrorIf(isOfDimension && !slices.Contains(p.Funcs[f].Args, d.Vars[0]), api.ErrUnknown)
}

// isPlacing reports whether an Op says where a function is computed or stored, and how much of it.
func isPlacing(op int) bool {
	switch op {
	case api.ComputeRoot, api.ComputeAt, api.StoreRoot, api.StoreAt, api.Fold:
		return true
	}
	return false
}
