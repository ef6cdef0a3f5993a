package loop

import (
	"slices"

	"halation/api"
	"halation/expr"
	"halation/image"
	"halation/list"
	"halation/num"
	"halation/param"
	"halation/stmt"
	"halation/tree"
)

// nowhere is the index beside an error that is no statement's, and the parent of the last statement.
const nowhere = -1

// Check returns the first error of a program, and its statement.
func Check(p api.Program) (int, api.Errno) {
	if err := headError(p); err != api.OK {
		return nowhere, err
	}
	forms := forms()
	for s := range statements(p.Stmts) {
		if err := s.error(p.Stmts, forms); err != api.OK {
			return s.at, err
		}
	}
	if stmt.First(p.Stmts, len(p.Stmts)-1) != 0 {
		return nowhere, api.ErrForm
	}
	for at, err := range namesErrors(p, forms) {
		if err != api.OK {
			return at, err
		}
	}
	return 0, api.OK
}

// headError returns the error of what a program has beside its statements, and of their number.
func headError(p api.Program) api.Errno {
	if len(p.Buffers) > api.MaxInputs+1 {
		return api.ErrMany
	}
	var names []string
	for _, b := range p.Buffers {
		if err := list.FirstError(nameError(b.Name, names), num.CheckKind(b.Kind), image.CheckBox(b.Box)); err != api.OK {
			return err
		}
		names = append(names, b.Name)
	}
	if len(p.Params) > api.MaxParams {
		return api.ErrMany
	}
	for _, x := range p.Params {
		if err := list.FirstError(nameError(x.Name, names), param.Error(x)); err != api.OK {
			return err
		}
		names = append(names, x.Name)
	}
	return list.FirstError(list.ErrorIf(len(p.Stmts) == 0, api.ErrEmpty), list.ErrorIf(len(p.Stmts) > api.MaxStmts, api.ErrMany))
}

// nameError returns the error of a name behind others.
func nameError(name string, before []string) api.Errno {
	return list.FirstError(
		list.ErrorIf(!expr.IsName(name), api.ErrName),
		list.ErrorIf(slices.Contains(before, name), api.ErrTwice))
}

// error returns the error of what a statement itself has, where those before it are right.
func (s placed) error(l []api.Stmt, forms [api.Stmts]form) api.Errno {
	if s.Op < 0 || s.Op >= api.Stmts {
		return api.ErrKind
	}
	f := forms[s.Op]
	isRightName := expr.IsName(s.Name) && f.named || s.Name == "" && !f.named
	err := list.FirstError(
		list.ErrorIf(!f.kinds.has(s.Kind) || !f.loops.has(s.Loop), api.ErrKind),
		list.ErrorIf(!isRightName, api.ErrName),
		list.ErrorIf(!f.exprs.has(len(s.Exprs)) || !f.kids.has(len(s.Kids)), api.ErrShape),
		list.ErrorIf(!s.inOrder(l), api.ErrOrder))
	if err != api.OK {
		return err
	}
	return s.exprsError(f)
}

// inOrder reports whether the kids end just before the statement, and each one just before the next.
func (s placed) inOrder(l []api.Stmt) bool {
	end := s.at - 1
	for i, kid := range slices.Backward(s.Kids) {
		if kid < 0 || kid != end {
			return false
		}
		if i > 0 {
			end = stmt.First(l, kid) - 1
		}
	}
	return true
}

// exprsError returns the error of a statement's expressions.
func (s placed) exprsError(f form) api.Errno {
	constants := f.constants(s.Stmt)
	isSingle, isEven, isInRange := true, true, true
	for i, e := range s.Exprs {
		kind, lanes, err := expr.Kind(e)
		if err := list.FirstError(err, list.ErrorIf(f.types[i] != anyKind && kind != f.types[i], api.ErrType)); err != api.OK {
			return err
		}
		if constants[i] != (ends{}) {
			n, ok := constant(e)
			if !ok {
				return api.ErrForm
			}
			isInRange = isInRange && constants[i].has(n)
		}
		isSingle = isSingle && lanes == 1
		isEven = isEven && lanes == tree.Whole(s.Exprs[0]).Lanes
	}
	return list.FirstError(
		list.ErrorIf(!isEven || !isSingle && !f.several, api.ErrVector),
		list.ErrorIf(!isInRange, api.ErrRange))
}
