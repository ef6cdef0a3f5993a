package loop

import (
	"math"

	"halation/api"
	"halation/tree"
)

const (
	maxExprs    = 3  // expressions of a statement
	maxKids     = 64 // kids of a block
	maxUnrolled = 64 // how often a loop may go that is unrolled
)

const (
	nothing = -1 // the Op of the nodes that use what a statement declares that declares nothing
	anyKind = -1 // the kind of a store's value, which is that of its buffer
)

// ends are the least and the greatest number that something may be. Where nothing is asked for they are both 0.
type ends [2]int

func (e ends) has(n int) bool {
	return e[0] <= n && n <= e[1]
}

// form is what the statements of an Op have.
type form struct {
	named     bool
	kinds     ends
	loops     ends
	exprs     ends // how many expressions
	kids      ends // how many kids
	types     [maxExprs]int
	several   bool // whether the expressions may have several lanes
	constants func(s api.Stmt) [maxExprs]ends
	declares  int // the Op of the nodes that use what it declares
	write     func(s placed, exprs string) string
	read      func(s *api.Stmt, rest string) []string
}

// forms returns the forms of all Ops.
func forms() [api.Stmts]form {
	indexed := [maxExprs]int{api.I32, api.I32}
	holds := [maxExprs]int{api.Bool}
	return [api.Stmts]form{
		api.SBlock:  {kids: ends{0, maxKids}, constants: noConstants, declares: nothing, write: placed.block, read: readBlock},
		api.SFor:    {named: true, loops: ends{0, api.Loops - 1}, exprs: ends{2, 2}, kids: ends{1, 1}, types: indexed, constants: loopConstants, declares: api.EVar, write: placed.loop, read: readParts},
		api.SAlloc:  {named: true, kinds: ends{0, api.Kinds - 1}, exprs: ends{1, 1}, kids: ends{1, 1}, types: indexed, constants: sizeConstant, declares: api.ELoad, write: placed.alloc, read: readAlloc},
		api.SStore:  {named: true, exprs: ends{2, 3}, types: [maxExprs]int{api.I32, anyKind, api.Bool}, several: true, constants: noConstants, declares: nothing, write: placed.store, read: readParts},
		api.SIf:     {exprs: ends{1, 1}, kids: ends{1, 2}, types: holds, constants: noConstants, declares: nothing, write: placed.condition, read: readCondition},
		api.SLet:    {named: true, exprs: ends{1, 1}, kids: ends{1, 1}, types: indexed, constants: noConstants, declares: api.EVar, write: placed.let, read: readParts},
		api.SAssert: {named: true, exprs: ends{1, 1}, types: holds, constants: noConstants, declares: nothing, write: placed.assertion, read: readAssertion},
		api.SMark:   {named: true, kids: ends{1, 1}, constants: noConstants, declares: nothing, write: placed.mark, read: readMark},
		api.SCopy:   {named: true, loops: ends{0, 1}, constants: noConstants, declares: nothing, write: placed.transfer, read: readTransfer},
	}
}

// declares reports whether a right statement declares something that nodes with an Op use.
func (s placed) declares(op int) bool {
	return forms()[s.Op].declares == op
}

func noConstants(api.Stmt) [maxExprs]ends {
	return [maxExprs]ends{}
}

// loopConstants: what is unrolled goes a number of times that is known, and a vector begins where it is known, too.
func loopConstants(s api.Stmt) [maxExprs]ends {
	switch s.Loop {
	case api.Vector:
		return [maxExprs]ends{{math.MinInt32, math.MaxInt32}, {1, api.MaxLanes}}
	case api.Unrolled:
		return [maxExprs]ends{{}, {0, maxUnrolled}}
	}
	return noConstants(s)
}

func sizeConstant(api.Stmt) [maxExprs]ends {
	return [maxExprs]ends{{1, api.MaxPoints}}
}

// constant returns the number of an expression that is a constant of the kind I32.
func constant(e api.Expr) (int, bool) {
	whole := tree.Whole(e)
	return int(int32(whole.Bits)), whole.Op == api.EConst
}
