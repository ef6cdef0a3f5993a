package prove

import (
	"cmp"
	"iter"
	"slices"

	"halation/api"
	"halation/list"
	"halation/span"
)

// maxTimes is how often the direct leaf may take a given line from the goal.
const maxTimes = 4

// leaves are leaves by their factors of the goal and the given lines.
type leaves = iter.Seq[Step]

// way is a kind of leaves that are tried.
type way struct {
	leaves func(c Claim) leaves
}

// contradictions take each given line alone.
func (c Claim) contradictions() leaves {
	return c.with(0, 1)
}

// alone takes nothing from the goal.
func (c Claim) alone() leaves {
	return func(yield func(Step) bool) {
		yield(c.leaf(1))
	}
}

// multiples take multiples of each given line from the goal.
func (c Claim) multiples() leaves {
	return c.with(1, maxTimes)
}

// with has leaves for each given line, from once to some times.
func (c Claim) with(goal, times int) leaves {
	return func(yield func(Step) bool) {
		for line := range len(c.Given) {
			for before := range times {
				s := c.leaf(goal)
				s.Given[line] = before + 1
				if !yield(s) {
					return
				}
			}
		}
	}
}

// leaf returns a leaf with a factor of the goal, and no others yet.
func (c Claim) leaf(goal int) Step {
	variables := len(c.Spans)
	return Step{Leaf: true, Goal: goal, Given: make([]int, len(c.Given)), Low: make([]int, variables), High: make([]int, variables)}
}

// bounded returns a leaf with those factors of the spans' ends that take away all coefficients.
func (s Step) bounded(c Claim) Step {
	for variable, coeff := range s.left(c).Coeffs {
		s.Low[variable], s.High[variable] = max(coeff, 0), max(-coeff, 0)
	}
	return s
}

// direct returns the direct leaf of a claim, if there is one.
func (c Claim) direct() (Step, bool) {
	ways := [...]way{{Claim.contradictions}, {Claim.alone}, {Claim.multiples}}
	found := Step{}
search:
	for _, w := range ways {
		for s := range w.leaves(c) {
			if s = s.bounded(c); s.proves(c) {
				found = s
				break search
			}
		}
	}
	return found, found.Leaf
}

// Direct returns the leaf that proves a claim, if one of the told ones does.
func Direct(c Claim) (Step, bool, api.Errno) {
	if err := CheckClaim(c); err != api.OK {
		return Step{}, false, err
	}
	s, ok := c.direct()
	return s, ok, api.OK
}

// decider looks at one claim after the other, until one of them is refuted.
type decider struct {
	tries int // those that are left
	steps []Step
	point []int
	err   api.Errno
}

// Decide returns a proof of a claim, or a point that refutes it.
func Decide(c Claim, tries int) (Proof, []int, bool, api.Errno) {
	if err := list.FirstError(CheckClaim(c), list.ErrorIf(tries < 1 || tries > MaxTries, api.ErrRange)); err != api.OK {
		return Proof{}, nil, false, err
	}
	d := decider{tries: tries}
	if _, ok := d.prove(c); !ok {
		return Proof{}, d.point, false, d.err
	}
	return Proof{d.steps}, nil, true, api.OK
}

// prove adds the steps that prove a claim, and returns the last one's index. If it returns false, there is a point or
// an error.
func (d *decider) prove(c Claim) (int, bool) {
	if d.tries == 0 {
		d.err = api.ErrLimit
		return 0, false
	}
	d.tries--
	if s, ok := c.direct(); ok {
		return d.add(s), true
	}
	if !slices.ContainsFunc(c.Spans, isWide) {
		d.point = list.Map(c.Spans, func(s span.Span) int { return s.Low })
		return 0, false
	}
	widest := c.widest()
	s := Step{Variable: widest.number, Bound: (widest.Low + widest.High) >> 1} // rounded down, also below 0
	kids, ok := inTurn(c.halves(s.Variable, s.Bound), d.prove)
	if !ok {
		return 0, false
	}
	s.Kids = kids
	return d.add(s), true
}

func (d *decider) add(s Step) int {
	d.steps = append(d.steps, s)
	return len(d.steps) - 1
}

// inTurn returns the steps that prove both halves. The second one is left alone if the first one is not proved.
func inTurn(halves [2]Claim, prove func(Claim) (int, bool)) ([2]int, bool) {
	var kids [2]int
	for side, half := range halves {
		kid, ok := prove(half)
		if !ok {
			return [2]int{}, false
		}
		kids[side] = kid
	}
	return kids, true
}

// isWide reports whether a span has more than one number.
func isWide(s span.Span) bool {
	return s != span.Span{Low: s.Low, High: s.Low}
}

// variable is a variable of a claim with its span.
type variable struct {
	span.Span
	number int
}

// compareWidth orders variables by the widths of their spans.
func (v variable) compareWidth(w variable) int {
	return cmp.Compare(v.High-v.Low, w.High-w.Low)
}

// widest returns the first variable of those with the widest span.
func (c Claim) widest() variable {
	var all []variable
	for number, s := range c.Spans {
		all = append(all, variable{s, number})
	}
	return slices.MaxFunc(all, variable.compareWidth)
}
