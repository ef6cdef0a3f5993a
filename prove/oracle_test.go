package prove_test

import (
	"math/big"
	"slices"

	"halation/api"
	"halation/prove"
	"halation/span"
)

// The functions of this file are the document's words.

func outside(n, low, high int) bool {
	return n < low || n > high
}

func wrongLine(l prove.Line, variables int) api.Errno {
	if len(l.Coeffs) != variables {
		return api.ErrShape
	}
	for _, coeff := range l.Coeffs {
		if outside(coeff, -(1 << 20), 1<<20) {
			return api.ErrRange
		}
	}
	if outside(l.Const, -(1 << 40), 1<<40) {
		return api.ErrRange
	}
	return api.OK
}

func wrongSpans(l []span.Span) api.Errno {
	if len(l) > 6 {
		return api.ErrMany
	}
	for _, s := range l {
		switch {
		case outside(s.Low, -(1 << 20), 1<<20), outside(s.High, -(1 << 20), 1<<20):
			return api.ErrRange
		case s.Low > s.High:
			return api.ErrOrder
		}
	}
	return api.OK
}

func wrongClaim(c prove.Claim) api.Errno {
	if err := wrongSpans(c.Spans); err != api.OK {
		return err
	}
	if len(c.Given) > 12 {
		return api.ErrMany
	}
	for _, l := range append(slices.Clone(c.Given), c.Goal) {
		if err := wrongLine(l, len(c.Spans)); err != api.OK {
			return err
		}
	}
	return api.OK
}

func wrongForm(c prove.Claim, p prove.Proof) api.Errno {
	if err := wrongClaim(c); err != api.OK {
		return err
	}
	if len(p.Steps) == 0 {
		return api.ErrEmpty
	}
	if len(p.Steps) > 400 {
		return api.ErrMany
	}
	for at := range p.Steps {
		if err := wrongStep(c, p, at); err != api.OK {
			return err
		}
	}
	for at := range len(p.Steps) - 1 {
		if !isKidBefore(p, len(p.Steps), at) {
			return api.ErrShape
		}
	}
	return api.OK
}

// isKidBefore reports whether a step is a kid of a split before another one.
func isKidBefore(p prove.Proof, before, kid int) bool {
	for _, s := range p.Steps[:before] {
		if !s.Leaf && (s.Kids[0] == kid || s.Kids[1] == kid) {
			return true
		}
	}
	return false
}

func wrongStep(c prove.Claim, p prove.Proof, at int) api.Errno {
	s := p.Steps[at]
	if s.Leaf {
		if len(s.Given) != len(c.Given) || len(s.Low) != len(c.Spans) || len(s.High) != len(c.Spans) {
			return api.ErrShape
		}
		for _, n := range append([]int{s.Goal}, s.Given...) {
			if outside(n, 0, 1000) {
				return api.ErrRange
			}
		}
		for _, n := range slices.Concat(s.Low, s.High) {
			if outside(n, 0, 1<<35) {
				return api.ErrRange
			}
		}
		if s.Variable != 0 || s.Bound != 0 || s.Kids[0] != 0 || s.Kids[1] != 0 {
			return api.ErrForm
		}
		return api.OK
	}
	switch {
	case s.Goal != 0 || len(s.Given) != 0 || len(s.Low) != 0 || len(s.High) != 0:
		return api.ErrForm
	case outside(s.Variable, 0, len(c.Spans)-1):
		return api.ErrUnknown
	case outside(s.Bound, -(1 << 20), 1<<20):
		return api.ErrRange
	case outside(s.Kids[0], 0, at-1), outside(s.Kids[1], 0, at-1):
		return api.ErrOrder
	case s.Kids[0] == s.Kids[1], isKidBefore(p, at, s.Kids[0]), isKidBefore(p, at, s.Kids[1]):
		return api.ErrTwice
	}
	return api.OK
}

// narrowed returns a claim with another span of a variable.
func narrowed(c prove.Claim, variable int, s span.Span) prove.Claim {
	spans := slices.Clone(c.Spans)
	spans[variable] = s
	return prove.Claim{Spans: spans, Given: c.Given, Goal: c.Goal}
}

// wrongProof looks at a step of a proof of the right form and what is below it.
func wrongProof(c prove.Claim, p prove.Proof, at int) (int, api.Errno) {
	s := p.Steps[at]
	if s.Leaf {
		if !rightLeaf(c, s) {
			return at, api.ErrProof
		}
		return 0, api.OK
	}
	whole := c.Spans[s.Variable]
	if outside(s.Bound, whole.Low, whole.High-1) {
		return at, api.ErrBounds
	}
	if k, err := wrongProof(narrowed(c, s.Variable, of(whole.Low, s.Bound)), p, s.Kids[0]); err != api.OK {
		return k, err
	}
	return wrongProof(narrowed(c, s.Variable, of(s.Bound+1, whole.High)), p, s.Kids[1])
}

// rightLeaf computes with integers of any size.
func rightLeaf(c prove.Claim, s prove.Step) bool {
	variables := len(c.Spans)
	sum := make([]*big.Int, variables+1) // the last one is the constant
	for i := range sum {
		sum[i] = new(big.Int)
	}
	add := func(i, factor, n int) {
		sum[i].Add(sum[i], new(big.Int).Mul(big.NewInt(int64(factor)), big.NewInt(int64(n))))
	}
	addLine := func(factor int, l prove.Line) {
		for i, coeff := range l.Coeffs {
			add(i, factor, coeff)
		}
		add(variables, factor, l.Const)
	}
	addLine(s.Goal, c.Goal)
	for i, l := range c.Given {
		addLine(-s.Given[i], l)
	}
	for i, ends := range c.Spans {
		add(i, -s.Low[i], 1)
		add(variables, s.Low[i], ends.Low)
		add(i, s.High[i], 1)
		add(variables, -s.High[i], ends.High)
	}
	for _, coeff := range sum[:variables] {
		if coeff.Sign() != 0 {
			return false
		}
	}
	return sum[variables].Cmp(big.NewInt(int64(-s.Goal))) > 0
}

// direct tries the leaves one after the other.
func direct(c prove.Claim) (prove.Step, bool) {
	type try struct{ goal, line, times int }
	var tries []try
	for i := range c.Given {
		tries = append(tries, try{0, i, 1})
	}
	tries = append(tries, try{1, -1, 0})
	for i := range c.Given {
		for m := 1; m <= 4; m++ {
			tries = append(tries, try{1, i, m})
		}
	}
	for _, x := range tries {
		s := prove.Step{Leaf: true, Goal: x.goal, Given: make([]int, len(c.Given))}
		if x.line >= 0 {
			s.Given[x.line] = x.times
		}
		for i := range c.Spans {
			left := x.goal * c.Goal.Coeffs[i]
			if x.line >= 0 {
				left -= x.times * c.Given[x.line].Coeffs[i]
			}
			s.Low, s.High = append(s.Low, max(left, 0)), append(s.High, max(-left, 0))
		}
		if rightLeaf(c, s) {
			return s, true
		}
	}
	return prove.Step{}, false
}

// decision is what there is after some tries.
type decision struct {
	tries, most int
	steps       []prove.Step
	point       []int
	refuted     bool
	limit       bool
}

func (d *decision) decide(c prove.Claim) {
	if d.tries == d.most {
		d.limit = true
		return
	}
	d.tries++
	if s, ok := direct(c); ok {
		d.steps = append(d.steps, s)
		return
	}
	widest, at := 0, -1
	var lows []int
	for i, s := range c.Spans {
		lows = append(lows, s.Low)
		if s.High-s.Low > widest {
			widest, at = s.High-s.Low, i
		}
	}
	if at < 0 {
		d.point, d.refuted = lows, true
		return
	}
	s := c.Spans[at]
	middle := s.Low + (s.High-s.Low)/2
	if (s.Low+s.High)%2 != 0 && s.Low+s.High < 0 {
		middle = (s.Low + s.High - 1) / 2
	}
	d.decide(narrowed(c, at, of(s.Low, middle)))
	first := len(d.steps) - 1
	if d.refuted || d.limit {
		return
	}
	d.decide(narrowed(c, at, of(middle+1, s.High)))
	if d.refuted || d.limit {
		return
	}
	d.steps = append(d.steps, prove.Step{Variable: at, Bound: middle, Kids: [2]int{first, len(d.steps) - 1}})
}

// points returns all points of a box.
func points(l []span.Span) [][]int {
	if len(l) == 0 {
		return [][]int{nil}
	}
	var out [][]int
	for _, rest := range points(l[1:]) {
		for n := l[0].Low; n <= l[0].High; n++ {
			out = append(out, append([]int{n}, rest...))
		}
	}
	return out
}

func valueAt(l prove.Line, point []int) int {
	sum := l.Const
	for i, n := range point {
		sum += l.Coeffs[i] * n
	}
	return sum
}

// refuted reports whether a point of the right length refutes a claim.
func refuted(c prove.Claim, point []int) bool {
	for i, n := range point {
		if outside(n, c.Spans[i].Low, c.Spans[i].High) {
			return false
		}
	}
	for _, l := range c.Given {
		if valueAt(l, point) < 0 {
			return false
		}
	}
	return valueAt(c.Goal, point) < 0
}
