package run

import (
	"halation/api"
	"halation/image"
	"halation/list"
)

// cells are the elements of a buffer, marks which of them were stored.
type cells []uint64

type marks []bool

// buffer is a buffer while a program runs.
type buffer struct {
	cells
	marks
}

// bufferOf returns a buffer in which nothing was stored.
func bufferOf(elements int) *buffer {
	return &buffer{make(cells, elements), make(marks, elements)}
}

// filled returns a buffer in which all was stored.
func filled(l []uint64) *buffer {
	b := bufferOf(len(l))
	copy(b.cells, l)
	for i := range b.marks {
		b.marks[i] = true
	}
	return b
}

// scope is the innermost variable that is known in a lane, with those outside of it.
type scope struct {
	name  string
	value int
	outer *scope
}

// find returns the value of a variable that is known.
func (s *scope) find(name string) int {
	for s.name != name {
		s = s.outer
	}
	return s.value
}

// with returns the scope in which a variable is known, too.
func (s *scope) with(name string, value int) *scope {
	return &scope{name, value, s}
}

// machine runs a right program. Its methods that do something report whether the run goes on.
type machine struct {
	api.Program
	Result
	deeds   [api.Stmts]deed
	ways    [api.Ops]way
	buffers map[string]*buffer
	params  map[string]api.Value
	orders  []int
	begun   int // how many loops that have an order
	limit   int
	visits  []int
	note    func(Access) // nil, if nobody asks for accesses
	values  []lanes      // of the nodes of the expression that is computed
}

// machineOf returns a machine that can run, or the first error of what it should run.
func machineOf(p api.Program, g api.Given, orders []int, limit int) (*machine, api.Errno) {
	if err := list.FirstError(CheckGiven(p, g), ordersError(orders, limit)); err != api.OK {
		return nil, err
	}
	m := &machine{Program: p, ways: ways(), buffers: map[string]*buffer{}, params: map[string]api.Value{}, orders: orders, limit: limit}
	m.deeds = m.allDeeds()
	m.visits = make([]int, len(p.Stmts))
	for i, im := range g.Images {
		dense, _ := image.Dense(im) // CheckGiven has asked for its error
		m.buffers[p.Buffers[i].Name] = filled(dense.Data)
	}
	size, _ := image.Size(m.output().Box)
	m.buffers[m.output().Name] = bufferOf(size)
	for i, v := range g.Params {
		m.params[p.Params[i].Name] = v
	}
	return m, api.OK
}

// output returns the buffer of the output.
func (m *machine) output() api.Buffer {
	return m.Buffers[len(m.Buffers)-1]
}

// run runs the program, and returns its result.
func (m *machine) run() Result {
	m.do(len(m.Stmts)-1, []*scope{nil})
	out := m.buffers[m.output().Name]
	r := m.Result
	r.Output, r.Set = make([]uint64, len(out.cells)), make([]bool, len(out.marks))
	copy(r.Output, out.cells)
	copy(r.Set, out.marks)
	return r
}

// end ends the run in a statement.
func (m *machine) end(outcome, at int) bool {
	m.Outcome, m.At = outcome, at
	return false
}

// step is asked for each step, before it is done.
func (m *machine) step(at int) bool {
	if m.Result.Steps == m.limit {
		return m.end(Steps, at)
	}
	m.Result.Steps++
	return true
}

// tell tells of an access that is done.
func (m *machine) tell(a Access) {
	if m.note != nil {
		m.note(a)
	}
}

// load returns an element of a buffer.
func (m *machine) load(at int, name string, index int) (uint64, bool) {
	b := m.buffers[name]
	switch {
	case index < 0 || index >= len(b.cells):
		return 0, m.end(Bounds, at)
	case !b.marks[index]:
		return 0, m.end(Unset, at)
	case !m.step(at):
		return 0, false
	}
	m.Loads++
	m.tell(Access{Buffer: name, Index: index, Bits: b.cells[index], At: at})
	return b.cells[index], true
}

// put stores an element in a buffer.
func (m *machine) put(at int, name string, index int, bits uint64) bool {
	b := m.buffers[name]
	if index < 0 || index >= len(b.cells) {
		return m.end(Bounds, at)
	}
	if !m.step(at) {
		return false
	}
	b.cells[index], b.marks[index] = bits, true
	m.Stores++
	m.tell(Access{Store: true, Buffer: name, Index: index, Bits: bits, At: at})
	return true
}
