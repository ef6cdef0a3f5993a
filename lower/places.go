package lower

import (
	"iter"
	"slices"

	"halation/api"
	"halation/bound"
	"halation/list"
	"halation/site"
	"halation/stmt"
)

// innermost returns the place inside of some loops: the last one of them, or no loop, which is the whole program.
func innermost(l []bound.Loop) bound.Loop {
	if len(l) == 0 {
		return bound.Loop{}
	}
	return l[len(l)-1]
}

// building is a program that is put together of the functions with their stages, the last one of which is the output.
type building struct {
	*lowering
	functions []function
}

// prepared returns a building whose stages have the statements of their points.
func (l *lowering) prepared() (building, api.Errno) {
	out := building{l, nil}
	for _, fn := range l.placed.Funcs {
		f, _ := l.function(fn.Name)
		for number := range len(f.Updates) + 1 {
			x := l.stage(f, number)
			var err api.Errno
			if x.statements, err = x.point(); err != api.OK {
				return building{}, err
			}
			f.stages = append(f.stages, x)
		}
		out.functions = append(out.functions, f)
	}
	return out, api.OK
}

// sizeError returns ErrLarge if a buffer other than the output's has no elements.
func (l *lowering) sizeError() api.Errno {
	return list.FirstError(list.Map(l.held[:len(l.held)-1], func(h Held) api.Errno {
		return list.ErrorIf(h.Storage.Elements < 1, api.ErrLarge)
	})...)
}

// last returns the output, inner visits the functions ahead of it.
func (b building) last() function {
	return b.functions[len(b.functions)-1]
}

func (b building) inner() iter.Seq[function] {
	return slices.Values(b.functions[:len(b.functions)-1])
}

// program returns the program.
func (b building) program() api.Program {
	out := api.Program{Stmts: b.in(bound.Loop{}, b.production(b.last()))}
	for i, box := range b.inputs {
		out.Buffers = append(out.Buffers, bufferOf(b.held[i], box))
	}
	out.Buffers = append(out.Buffers, bufferOf(b.last().held, b.b))
	for _, x := range b.p.Params {
		x.Name = b.params[x.Name]
		out.Params = append(out.Params, x)
	}
	return out
}

func bufferOf(h Held, b api.Box) api.Buffer {
	return api.Buffer{Name: h.Buffer, Kind: h.Kind, Box: slices.Clone(b)}
}

// in returns what is in a place, by what there is to do.
func (b building) in(place bound.Loop, what []api.Stmt) []api.Stmt {
	var before [][]api.Stmt
	var held []Held
	for f := range b.inner() {
		if innermost(f.region.Site) == place {
			before = append(before, b.production(f))
		}
		if innermost(f.held.Storage.Site) == place {
			held = append(held, f.held)
		}
	}
	if len(before) > 0 {
		what = stmt.Over(api.Stmt{Op: api.SBlock}, append(before, what)...)
	}
	for _, h := range slices.Backward(held) {
		what = stmt.Over(api.Stmt{Op: api.SAlloc, Name: h.Buffer, Kind: h.Kind, Exprs: []api.Expr{integer(h.Storage.Elements)}}, what)
	}
	return what
}

// production returns what computes a function.
func (b building) production(f function) []api.Stmt {
	stages := list.Map(f.stages, func(x *stage) []api.Stmt { return b.from(x, len(f.region.Site)) })
	return stmt.Over(api.Stmt{Op: api.SMark, Name: f.held.Buffer}, stmt.Over(api.Stmt{Op: api.SBlock}, stages...))
}

// from returns the loops of a stage from one of its path on, with what is in them.
func (b building) from(x *stage, at int) []api.Stmt {
	if at == len(x.path) {
		return x.statements
	}
	own := x.Loops[len(x.path)-1-at]
	loop := api.Stmt{Op: api.SFor, Name: site.Variable(at), Loop: own.Kind, Exprs: []api.Expr{integer(0), integer(own.Extent)}}
	return stmt.Over(loop, b.in(x.path[at], b.from(x, at+1)))
}
