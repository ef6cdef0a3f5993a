package nest_test

import (
	"math/rand"
	"slices"
	"testing"

	"halation/api"
	"halation/front"
	"halation/nest"
	"halation/sched"
)

const pipelineText = `pipeline p
input in u8 1
func g(x) i32 = i32(in[x])
func f(x, y) i32 = g(x) + y
over r 5 3
set x, r = x + r
over r 0 2
over s -7 40
set r, y = y + s
set 0, 1 = 7
func h(x, y, z) i32 = f(x, y) * z
set x, y, z = h(x, y, z) + 1
over r 0 64
over s 0 64
set r, s, z = z
func out(z) i32 = h(z, z, z)
end
`

func pipeline(t testing.TB) api.Pipeline {
	t.Helper()
	p, line, column, err := front.Parse(pipelineText)
	if err != api.OK {
		t.Fatal("Parse", line, column, err)
	}
	return p
}

// schedule returns the schedule of a text.
func schedule(t testing.TB, s string) api.Schedule {
	t.Helper()
	out, line, err := sched.Parse(s)
	if err != api.OK {
		t.Fatal("Parse", s, line, err)
	}
	return out
}

// maker makes stages and schedules.
type maker struct {
	*rand.Rand
}

func (m maker) oneOf(l ...int) int { return l[m.Intn(len(l))] }

// stage makes a stage whose box often has few points.
func (m maker) stage(p api.Pipeline) nest.Stage {
	f := p.Funcs[m.Intn(len(p.Funcs))]
	x := nest.Stage{Func: f.Name, Number: m.Intn(len(f.Updates) + 1)}
	for range f.Args {
		x.Box = append(x.Box, api.Range{Min: m.Intn(9) - 4, Extent: m.oneOf(1, 2, 3, 4, 5, 6, 7, 8, 10, 12, 15, 16)})
	}
	if i := m.Intn(len(x.Box)); m.Intn(4) == 0 {
		x.Box[i].Extent = m.oneOf(0, 0, 1, 1, 16)
	}
	return x
}

var pool = []string{"x", "y", "z", "r", "s", "a", "b", "c", "d", "e", "f", "g", "xo", "xi", "yo", "yi", "t", "u", "v", "w"}

// names returns n different names, of which most are those of loops, if they are to be there.
func (m maker) names(o *oracle, n int, there bool) []string {
	var out []string
	for len(out) < n {
		name := pool[m.Intn(len(pool))]
		isWrong := m.Intn(30) == 0 // a loop that is not there, or one that is
		if there != isWrong && len(o.loops) >= n {
			name = o.loops[m.Intn(len(o.loops))].Name
		} else if !isWrong && !there && o.find(name) >= 0 {
			continue
		}
		if slices.Contains(out, name) {
			continue
		}
		out = append(out, name)
	}
	return out
}

// directive makes a directive that mostly fits the loops that there are.
func (m maker) directive(x nest.Stage, o *oracle) api.Directive {
	d := api.Directive{Func: x.Func, Stage: x.Number, Op: m.oneOf(0, 0, 0, 0, 0, 0, 0, 1, 1, 1, 1, 2, 2, 3, 3, 4, 5, 6, 7, 8)}
	switch d.Op {
	case api.Split:
		d.Vars = append(m.names(o, 1, true), m.names(o, 2, false)...)
		d.Factor = m.oneOf(1, 1, 2, 2, 3, 4, 5, 8, 64)
		d.Tail = m.Intn(4)
		if at := o.find(d.Vars[0]); d.Tail == api.Exact && at >= 0 && o.loops[at].Extent > 0 {
			for o.loops[at].Extent%d.Factor != 0 && m.Intn(9) > 0 {
				d.Factor = 1 + m.Intn(8)
			}
		}
	case api.Fuse:
		d.Vars = append(m.names(o, 2, true), m.names(o, 1, false)...)
		if at := o.find(d.Vars[0]); at >= 0 && at+1 < len(o.loops) && m.Intn(8) > 0 {
			d.Vars[1] = o.loops[at+1].Name
		}
	case api.Reorder:
		d.Vars = m.names(o, min(max(2, len(o.loops)), 2+m.Intn(3)), true)
	case api.Rename:
		d.Vars = append(m.names(o, 1, true), m.names(o, 1, false)...)
	default:
		d.Vars = m.names(o, 1, true)
	}
	return d
}

// schedule makes a schedule, whose directives are for this stage but for a few. Most of those that the oracle would
// refuse are left out.
func (m maker) schedule(p api.Pipeline, x nest.Stage) api.Schedule {
	var s api.Schedule
	o := newOracle(p, x)
	for range m.Intn(14) {
		if m.Intn(8) == 0 {
			s = append(s, m.other(x))
			continue
		}
		d := m.directive(x, o)
		if sched.CheckDirective(d) != api.OK { // a name comes twice
			continue
		}
		next, _, err := made(p, append(slices.Clone(s), d), x)
		if err != api.OK && m.Intn(6) > 0 {
			continue
		}
		s = append(s, d)
		if err != api.OK {
			break
		}
		o = next
	}
	if m.Intn(4) == 0 { // behind what is refused, nothing matters
		s = append(s, m.other(x), api.Directive{Func: x.Func, Stage: x.Number, Op: api.Unroll, Vars: []string{"nowhere"}})
	}
	return s
}

// other makes a directive that is for another stage, or not about loops.
func (m maker) other(x nest.Stage) api.Directive {
	d := api.Directive{Func: x.Func, Stage: x.Number, Op: api.Unroll, Vars: []string{"nowhere"}}
	switch m.Intn(3) {
	case 0:
		d.Func = "g"
		if x.Func == "g" {
			d.Func = "out"
		}
		d.Stage = 0
	case 1:
		d.Func, d.Stage = "f", 3
		if x.Func == "f" && x.Number == 3 {
			d.Stage = 2
		}
	default:
		return api.Directive{Func: "h", Op: api.Fold, Vars: []string{[]string{"x", "y", "z"}[m.Intn(3)]}, Factor: 4}
	}
	return d
}
