package loop

import (
	"slices"

	"halation/api"
	"halation/expr"
	"halation/list"
	"halation/stmt"
)

// copied returns a copy of a program that shares no memory with it.
func copied(p api.Program) api.Program {
	box := func(b api.Buffer) api.Buffer {
		b.Box = slices.Clone(b.Box)
		return b
	}
	return api.Program{Buffers: list.Map(p.Buffers, box), Params: slices.Clone(p.Params), Stmts: stmt.Moved(p.Stmts, 0)}
}

// Renamed returns a program with another name.
func Renamed(p api.Program, from, to string) (api.Program, api.Errno) {
	if _, err := Check(p); err != api.OK {
		return api.Program{}, err
	}
	isThere := func(name string) bool { return has(p, name, api.EVar, api.EParam, api.ELoad) }
	err := list.FirstError(
		list.ErrorIf(!isThere(from), api.ErrUnknown),
		list.ErrorIf(!expr.IsName(to), api.ErrName),
		list.ErrorIf(from != to && isThere(to), api.ErrTwice))
	if err != api.OK {
		return api.Program{}, err
	}
	out := copied(p)
	rename := func(name *string) {
		if *name == from {
			*name = to
		}
	}
	for i := range out.Buffers {
		rename(&out.Buffers[i].Name)
	}
	for i := range out.Params {
		rename(&out.Params[i].Name)
	}
	for i := range out.Stmts {
		s := &out.Stmts[i]
		if s.Op != api.SMark && s.Op != api.SAssert { // their names are no others'
			rename(&s.Name)
		}
		for _, e := range s.Exprs {
			for k := range e {
				rename(&e[k].Name)
			}
		}
	}
	return out, api.OK
}

// Replaced returns a program with other statements in place of one.
func Replaced(p api.Program, at int, by []api.Stmt) (api.Program, api.Errno) {
	if err := checkAt(p, at); err != api.OK {
		return api.Program{}, err
	}
	first, more := stmt.First(p.Stmts, at), len(by)
	more -= at - first + 1
	out := copied(p)
	rest := out.Stmts[at+1:]
	for i := range rest {
		for k, kid := range rest[i].Kids {
			if kid >= at {
				rest[i].Kids[k] = kid + more
			}
		}
	}
	out.Stmts = slices.Concat(out.Stmts[:first], stmt.Moved(by, first), rest)
	if _, err := Check(out); err != api.OK {
		return api.Program{}, err
	}
	return out, api.OK
}
