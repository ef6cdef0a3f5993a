package run

import (
	"iter"
	"slices"

	"halation/api"
	"halation/tree"
)

// statement is a statement with its index.
type statement struct {
	api.Stmt
	at int
}

// deed is what is done by a statement for the lanes that are active: those of a Vector loop around it, or one alone.
type deed struct {
	do func(s statement, active []*scope) bool
}

// allDeeds returns what the statements of each Op do.
func (m *machine) allDeeds() [api.Stmts]deed {
	return [api.Stmts]deed{
		api.SBlock:  {m.block},
		api.SFor:    {m.loop},
		api.SAlloc:  {m.alloc},
		api.SStore:  {m.store},
		api.SIf:     {m.branch},
		api.SLet:    {m.let},
		api.SAssert: {m.assert},
		api.SMark:   {m.block}, // of one kid
		api.SCopy:   {m.block}, // of none
	}
}

// do does a statement for the lanes that are active.
func (m *machine) do(at int, active []*scope) bool {
	for range len(active) {
		if !m.step(at) {
			return false
		}
		m.visits[at]++
	}
	if len(active) == 0 {
		return true
	}
	s := m.Stmts[at]
	return m.deeds[s.Op].do(statement{s, at}, active)
}

// singles computes an expression with one lane in each scope.
func (m *machine) singles(at int, e api.Expr, active []*scope) ([]uint64, bool) {
	out := make([]uint64, len(active))
	for i, vars := range active {
		bits, ok := m.single(at, e, vars)
		if !ok {
			return nil, false
		}
		out[i] = bits
	}
	return out, true
}

func (m *machine) block(s statement, active []*scope) bool {
	for _, kid := range s.Kids {
		if !m.do(kid, active) {
			return false
		}
	}
	return true
}

func (m *machine) alloc(s statement, active []*scope) bool {
	m.buffers[s.Name] = bufferOf(integer(tree.Whole(s.Exprs[0]).Bits)) // it is a constant
	goesOn := m.do(s.Kids[0], active)
	delete(m.buffers, s.Name)
	return goesOn
}

func (m *machine) branch(s statement, active []*scope) bool {
	holds, ok := m.singles(s.at, s.Exprs[0], active)
	if !ok {
		return false
	}
	var chosen [2][]*scope // for the first kid, and for the second one
	for i, vars := range active {
		kid := 1 - int(holds[i])
		chosen[kid] = append(chosen[kid], vars)
	}
	for i, kid := range s.Kids {
		if !m.do(kid, chosen[i]) {
			return false
		}
	}
	return true
}

func (m *machine) let(s statement, active []*scope) bool {
	values, ok := m.singles(s.at, s.Exprs[0], active)
	if !ok {
		return false
	}
	inner := make([]*scope, len(active))
	for i, vars := range active {
		inner[i] = vars.with(s.Name, integer(values[i]))
	}
	return m.do(s.Kids[0], inner)
}

// assert asks each lane before the next one is computed.
func (m *machine) assert(s statement, active []*scope) bool {
	for _, vars := range active {
		holds, ok := m.single(s.at, s.Exprs[0], vars)
		if !ok {
			return false
		}
		if holds == 0 {
			return m.end(Failed, s.at)
		}
	}
	return true
}

// even reports whether lanes have the same number.
func even(l []uint64) bool {
	return !slices.ContainsFunc(l, func(bits uint64) bool { return bits != l[0] })
}

// loop does the values of a loop.
func (m *machine) loop(s statement, active []*scope) bool {
	order := m.order(s.Loop)
	begins, ok := m.singles(s.at, s.Exprs[0], active)
	if !ok {
		return false
	}
	counts, ok := m.singles(s.at, s.Exprs[1], active)
	if !ok {
		return false
	}
	if !even(begins) || !even(counts) {
		return m.end(Uneven, s.at)
	}
	begin, times := integer(begins[0]), integer(counts[0])
	switch {
	case times <= 0:
		return true
	case begin < -api.MaxCoord || begin+times-1 > api.MaxCoord:
		return m.end(Range, s.at)
	case s.Loop == api.Vector:
		return m.vector(s, active[0], begin, times)
	}
	goesOn := true
going:
	for value := range valuesOf(begin, times, order) {
		if !m.step(s.at) || !m.do(s.Kids[0], inside(active, s.Name, value)) {
			goesOn = false
			break going
		}
	}
	return goesOn
}

// order returns the number of the order of a loop that is begun.
func (m *machine) order(kind int) int {
	if kind < api.Tasks {
		return 0
	}
	m.begun++
	if m.begun > len(m.orders) {
		return 0
	}
	return m.orders[m.begun-1]
}

// valuesOf visits the values of a loop in an order.
func valuesOf(begin, times, order int) iter.Seq[int] {
	return func(yield func(int) bool) {
		for i := range times {
			if !yield(begin + turned(order, times, i)) {
				return
			}
		}
	}
}

// inside returns scopes in which a variable has a value.
func inside(active []*scope, name string, value int) []*scope {
	out := make([]*scope, len(active))
	for i, vars := range active {
		out[i] = vars.with(name, value)
	}
	return out
}

// vector does all values of a loop together. No Vector loop is in another one, so that there is one scope around it.
func (m *machine) vector(s statement, vars *scope, begin, times int) bool {
	var inner []*scope
	for i := range times {
		if !m.step(s.at) {
			return false
		}
		inner = append(inner, vars.with(s.Name, begin+i))
	}
	return m.do(s.Kids[0], inner)
}

// pending is a store of a lane that has not been done.
type pending struct {
	vars   *scope
	where  mask
	index  lanes
	values lanes
}

func (m *machine) store(s statement, active []*scope) bool {
	left, ok := m.masked(s, active)
	if !ok {
		return false
	}
	width := tree.Whole(s.Exprs[0]).Lanes
	for i := range left {
		x := &left[i]
		if x.index, ok = m.compute(s.at, s.Exprs[0], x.vars, x.where, width); !ok {
			return false
		}
	}
	for i := range left {
		x := &left[i]
		if x.values, ok = m.compute(s.at, s.Exprs[1], x.vars, x.where, width); !ok {
			return false
		}
	}
	for _, x := range left {
		for lane := range width {
			if x.where[lane] && !m.put(s.at, s.Name, integer(x.index[lane]), x.values[lane]) {
				return false
			}
		}
	}
	return true
}

// masked returns the stores of those scopes in which some lane counts.
func (m *machine) masked(s statement, active []*scope) ([]pending, bool) {
	width := tree.Whole(s.Exprs[0]).Lanes
	var out []pending
	for _, vars := range active {
		where := all(width)
		if len(s.Exprs) > 2 {
			holds, ok := m.compute(s.at, s.Exprs[2], vars, where, width)
			if !ok {
				return nil, false
			}
			where = maskOf(holds)
		}
		if where != (mask{}) {
			out = append(out, pending{vars: vars, where: where})
		}
	}
	return out, true
}
