package loop

import (
	"iter"
	"slices"

	"halation/api"
	"halation/list"
	"halation/stmt"
	"halation/tree"
)

// name is a variable, a parameter or a buffer: the Op of the nodes that use it, its name, and its kind.
type name struct {
	op   int
	text string
	kind int
}

// heads visits the names of the buffers and parameters that a program is given.
func heads(p api.Program) iter.Seq[name] {
	return func(yield func(name) bool) {
		for _, b := range p.Buffers {
			if !yield(name{api.ELoad, b.Name, b.Kind}) {
				return
			}
		}
		for _, x := range p.Params {
			if !yield(name{api.EParam, x.Name, x.Kind}) {
				return
			}
		}
	}
}

// declaration returns the name that a statement declares, if it declares one.
func (s placed) declaration(forms [api.Stmts]form) (name, bool) {
	switch op := forms[s.Op].declares; op {
	case api.EVar:
		return name{op, s.Name, api.I32}, true
	case api.ELoad:
		return name{op, s.Name, s.Kind}, true
	}
	return name{}, false
}

// declared visits all names of a right program.
func declared(p api.Program) iter.Seq[name] {
	return func(yield func(name) bool) {
		for n := range heads(p) {
			if !yield(n) {
				return
			}
		}
		forms := forms()
		for s := range statements(p.Stmts) {
			if n, ok := s.declaration(forms); ok && !yield(n) {
				return
			}
		}
	}
}

// scoping is a walk through the statements of a program, the outermost first, with what is known at each one.
type scoping struct {
	api.Program
	forms  [api.Stmts]form
	known  map[string][]name // by their names, the outermost first
	outer  []int             // the kinds of the loops outside
	errors []api.Errno       // of the statements
}

// namesErrors returns for each statement, each of which is right by itself, the error of its names, or of its place.
func namesErrors(p api.Program, forms [api.Stmts]form) []api.Errno {
	x := scoping{p, forms, map[string][]name{}, nil, make([]api.Errno, len(p.Stmts))}
	for n := range heads(p) {
		x.known[n.text] = append(x.known[n.text], n)
	}
	x.visit(len(p.Stmts) - 1)
	return x.errors
}

// visit looks at a statement and all in it.
func (x *scoping) visit(at int) {
	s := placed{x.Stmts[at], at}
	x.errors[at] = x.error(s)
	own, ok := s.declaration(x.forms)
	outer := x.outer
	if ok {
		x.known[own.text] = append(x.known[own.text], own)
	}
	if s.Op == api.SFor {
		x.outer = append(x.outer, s.Loop)
	}
	for _, kid := range s.Kids {
		x.visit(kid)
	}
	if ok {
		x.known[own.text] = x.known[own.text][:len(x.known[own.text])-1]
	}
	x.outer = outer
}

// find returns what has a name for nodes with an Op.
func (x *scoping) find(op int, text string) (name, bool) {
	known := x.known[text]
	i := slices.IndexFunc(known, func(n name) bool { return n.op == op })
	if i < 0 {
		return name{}, false
	}
	return known[i], true
}

func (x *scoping) error(s placed) api.Errno {
	if own, ok := s.declaration(x.forms); ok && len(x.known[own.text]) > 0 {
		return api.ErrTwice
	}
	for _, e := range s.Exprs {
		if err := list.FirstError(list.Map(e, x.nodeError)...); err != api.OK {
			return err
		}
	}
	return list.FirstError(x.bufferError(s), list.ErrorIf(s.Op == api.SFor && !x.isAllowed(s), api.ErrLevel))
}

// nodeError returns the error of a node that may use a name.
func (x *scoping) nodeError(n api.Node) api.Errno {
	switch n.Op {
	case api.ECall, api.EImage:
		return api.ErrKind
	case api.EVar, api.EParam, api.ELoad:
		found, ok := x.find(n.Op, n.Name)
		return list.FirstError(list.ErrorIf(!ok, api.ErrUnknown), list.ErrorIf(found != name{n.Op, n.Name, n.Kind}, api.ErrType))
	}
	return api.OK
}

// bufferError returns the error of the buffer of a store or a copy.
func (x *scoping) bufferError(s placed) api.Errno {
	if s.Op != api.SStore && s.Op != api.SCopy {
		return api.OK
	}
	found, ok := x.find(api.ELoad, s.Name)
	if !ok {
		return api.ErrUnknown
	}
	if s.Op == api.SCopy {
		return api.OK
	}
	return list.ErrorIf(found != name{api.ELoad, s.Name, tree.Whole(s.Exprs[1]).Kind}, api.ErrType)
}

// isAllowed reports whether a loop may stand where it does, and have in it what it has.
func (x *scoping) isAllowed(s placed) bool {
	isInGrid := slices.Contains(x.outer, api.Grid)
	switch {
	case s.Loop == api.Vector && slices.ContainsFunc(x.Stmts[stmt.First(x.Stmts, s.at):s.at], isNoLane):
		return false
	case s.Loop == api.Lane && !isInGrid, s.Loop == api.Grid && isInGrid:
		return false
	}
	return len(x.outer) < api.MaxDepth
}

// isNoLane reports whether a statement is none that lanes of a vector can do together.
func isNoLane(s api.Stmt) bool {
	return s.Op == api.SAlloc || s.Op == api.SFor && s.Loop >= api.Vector
}
