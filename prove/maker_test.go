package prove_test

import (
	"math"
	"math/rand"
	"slices"

	"halation/prove"
	"halation/span"
)

// maker makes claims and proofs.
type maker struct{ *rand.Rand }

func made(seed int64) maker {
	return maker{rand.New(rand.NewSource(seed))}
}

func of(low, high int) span.Span {
	return span.Span{Low: low, High: high}
}

func (m maker) number(most int) int {
	return m.Intn(2*most+1) - most
}

func (m maker) line(variables, most int) prove.Line {
	l := prove.Line{Const: m.number(3 * most)}
	for range variables {
		l.Coeffs = append(l.Coeffs, m.number(most))
	}
	return l
}

// claim makes a claim over a box with few points.
func (m maker) claim() prove.Claim {
	variables := []int{0, 1, 1, 2, 2, 3}[m.Intn(6)]
	most := 1 + m.Intn(4)
	c := prove.Claim{Goal: m.line(variables, most)}
	for range variables {
		low := m.number(6)
		c.Spans = append(c.Spans, of(low, low+m.Intn([]int{1, 4, 10}[m.Intn(3)])))
	}
	for range []int{0, 1, 1, 2, 3}[m.Intn(5)] {
		c.Given = append(c.Given, m.line(variables, most))
	}
	return c
}

// large makes a claim whose numbers are at the ends of what is permitted.
func (m maker) large() prove.Claim {
	variables := m.Intn(prove.MaxVars + 1)
	end := func(most int) int { return []int{-most, most, 0, m.number(most)}[m.Intn(4)] }
	line := func() prove.Line {
		l := prove.Line{Const: end(prove.MaxConst)}
		for range variables {
			l.Coeffs = append(l.Coeffs, end(prove.MaxCoeff))
		}
		return l
	}
	c := prove.Claim{Goal: line()}
	for range variables {
		a, b := end(1<<20), end(1<<20)
		c.Spans = append(c.Spans, of(min(a, b), max(a, b)))
	}
	for range m.Intn(prove.MaxGiven + 1) {
		c.Given = append(c.Given, line())
	}
	return c
}

// leaf makes a leaf of the right form.
func (m maker) leaf(c prove.Claim, most int) prove.Step {
	factors := func(number, most int) []int {
		var out []int
		for range number {
			out = append(out, []int{0, 0, most, m.Intn(most + 1)}[m.Intn(4)])
		}
		return out
	}
	few, many := min(most, 1000), min(most, prove.MaxFactor)
	variables := len(c.Spans)
	return prove.Step{Leaf: true, Goal: factors(1, few)[0], Given: factors(len(c.Given), few), Low: factors(variables, many), High: factors(variables, many)}
}

// proof makes a proof of the right form, in which steps are in any order in which kids are before what they are kids of.
func (m maker) proof(c prove.Claim, most int) prove.Proof {
	var p prove.Proof
	var open []int
	leaves := 1 + m.Intn(5)
	if len(c.Spans) == 0 {
		leaves = 1
	}
	for leaves > 0 || len(open) > 1 {
		if leaves > 0 && (len(open) < 2 || m.Intn(2) == 0) {
			p.Steps = append(p.Steps, m.leaf(c, most))
			leaves--
		} else {
			m.Shuffle(len(open), func(i, j int) { open[i], open[j] = open[j], open[i] })
			variable := m.Intn(len(c.Spans))
			s := c.Spans[variable]
			bound := min(max(s.Low-1+m.Intn(s.High-s.Low+3), -1<<20), 1<<20)
			p.Steps = append(p.Steps, prove.Step{Variable: variable, Bound: bound, Kids: [2]int{open[0], open[1]}})
			open = open[2:]
		}
		open = append(open, len(p.Steps)-1)
	}
	return p
}

// anyInt returns a number that is often not right.
func (m maker) anyInt() int {
	numbers := []int{-1, 0, 1, 2, 3, 1000, 1001, math.MaxInt, math.MinInt}
	for _, power := range []int{20, 35, 40} {
		numbers = append(numbers, 1<<power, 1<<power+1, -1<<power, -1<<power-1)
	}
	return numbers[m.Intn(len(numbers))]
}

func (m maker) resized(l []int) []int {
	switch {
	case m.Intn(3) == 0 || len(l) == 0:
		return append(slices.Clone(l), m.anyInt())
	case m.Intn(2) == 0:
		return l[1:]
	}
	out := slices.Clone(l)
	out[m.Intn(len(l))] = m.anyInt()
	return out
}

func (m maker) spoiltLine(l prove.Line) prove.Line {
	if m.Intn(3) == 0 {
		l.Const = m.anyInt()
	} else {
		l.Coeffs = m.resized(l.Coeffs)
	}
	return l
}

// spoilt returns a claim with something changed.
func (m maker) spoilt(c prove.Claim) prove.Claim {
	c.Spans, c.Given = slices.Clone(c.Spans), slices.Clone(c.Given)
	switch m.Intn(7) {
	case 0:
		c.Spans = append(c.Spans, of(m.anyInt(), m.anyInt()))
	case 1, 2:
		if len(c.Spans) > 0 {
			s := &c.Spans[m.Intn(len(c.Spans))]
			if m.Intn(2) == 0 {
				s.Low = m.anyInt()
			} else {
				s.High = m.anyInt()
			}
		}
	case 3:
		c.Goal = m.spoiltLine(c.Goal)
	case 4, 5:
		if len(c.Given) > 0 {
			i := m.Intn(len(c.Given))
			c.Given[i] = m.spoiltLine(c.Given[i])
		}
	case 6:
		for range 13 {
			c.Given = append(c.Given, prove.Line{})
		}
	}
	return c
}

// spoiltProof returns a proof with some steps changed.
func (m maker) spoiltProof(p prove.Proof) prove.Proof {
	p.Steps = slices.Clone(p.Steps)
	for range 1 + m.Intn(2) {
		if len(p.Steps) == 0 {
			return p
		}
		s := &p.Steps[m.Intn(len(p.Steps))]
		switch m.Intn(10) {
		case 0:
			s.Leaf = !s.Leaf
		case 1:
			s.Goal = m.anyInt()
		case 2:
			s.Given = m.resized(s.Given)
		case 3:
			s.Low = m.resized(s.Low)
		case 4:
			s.High = m.resized(s.High)
		case 5:
			s.Variable = m.anyInt()
		case 6:
			s.Bound = m.anyInt()
		case 7, 8:
			s.Kids[m.Intn(2)] = []int{m.anyInt(), m.Intn(len(p.Steps))}[m.Intn(2)]
		case 9:
			p.Steps = p.Steps[:m.Intn(len(p.Steps)+1)]
		}
	}
	return p
}
