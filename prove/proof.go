package prove

import (
	"iter"
	"slices"

	"halation/api"
	"halation/list"
	"halation/span"
)

// maxGoal is the greatest factor of the goal, and of a given line.
const maxGoal = 1000

// Step is a part of a proof.
type Step struct {
	Leaf     bool
	Goal     int
	Given    []int
	Low      []int
	High     []int
	Variable int
	Bound    int
	Kids     [2]int
}

// Proof is steps, of which the last one is about the whole.
type Proof struct {
	Steps []Step
}

func (p Proof) sizeError() api.Errno {
	return list.FirstError(list.ErrorIf(len(p.Steps) == 0, api.ErrEmpty), list.ErrorIf(len(p.Steps) > MaxSteps, api.ErrMany))
}

// CheckForm returns the first error of a proof for a claim, or OK.
func CheckForm(c Claim, p Proof) api.Errno {
	if err := list.FirstError(CheckClaim(c), p.sizeError()); err != api.OK {
		return err
	}
	kids := map[int]bool{}
	for at, s := range p.Steps {
		if s.Leaf {
			if err := s.leafError(c); err != api.OK {
				return err
			}
			continue
		}
		if err := s.splitError(c, at, kids); err != api.OK {
			return err
		}
		kids[s.Kids[0]], kids[s.Kids[1]] = true, true
	}
	// Each step is a kid at most once, and the last one never is.
	return list.ErrorIf(len(kids) != len(p.Steps)-1, api.ErrShape)
}

// areFactors reports whether numbers are from 0 to the greatest one.
func areFactors(greatest int, numbers ...int) bool {
	return !slices.ContainsFunc(numbers, func(n int) bool { return n < 0 || n > greatest })
}

func (s Step) leafError(c Claim) api.Errno {
	variables := len(c.Spans)
	return list.FirstError(
		list.ErrorIf(len(s.Given) != len(c.Given) || len(s.Low) != variables || len(s.High) != variables, api.ErrShape),
		list.ErrorIf(!areFactors(maxGoal, s.Goal) || !areFactors(maxGoal, s.Given...), api.ErrRange),
		list.ErrorIf(!areFactors(MaxFactor, s.Low...) || !areFactors(MaxFactor, s.High...), api.ErrRange),
		list.ErrorIf(s.Variable != 0 || s.Bound != 0 || s.Kids != [2]int{}, api.ErrForm))
}

// splitError returns the error of a split; kids are those of the steps before it.
func (s Step) splitError(c Claim, at int, kids map[int]bool) api.Errno {
	a, b := s.Kids[0], s.Kids[1]
	return list.FirstError(
		list.ErrorIf(s.Goal != 0 || len(s.Given) > 0 || len(s.Low) > 0 || len(s.High) > 0, api.ErrForm),
		list.ErrorIf(s.Variable < 0 || s.Variable >= len(c.Spans), api.ErrUnknown),
		coordError(s.Bound),
		list.ErrorIf(!areFactors(at-1, a, b), api.ErrOrder),
		list.ErrorIf(kids[a] || kids[b] || a == b, api.ErrTwice))
}

// about is a step with its index, and the claim that it is about.
type about struct {
	Step
	at    int
	claim Claim
}

// steps visits the steps of a proof of the right form, each split before what is below it. The claims that steps are
// about are right as long as the splits before them are.
func (p Proof) steps(c Claim) iter.Seq[about] {
	return func(yield func(about) bool) {
		p.visit(len(p.Steps)-1, c, yield)
	}
}

func (p Proof) visit(at int, c Claim, yield func(about) bool) bool {
	s := p.Steps[at]
	if !yield(about{s, at, c}) {
		return false
	}
	if s.Leaf {
		return true
	}
	halves := c.halves(s.Variable, s.Bound)
	return p.visit(s.Kids[0], halves[0], yield) && p.visit(s.Kids[1], halves[1], yield)
}

// halves returns the claims about the two parts of a variable's span.
func (c Claim) halves(variable, bound int) [2]Claim {
	whole := c.Spans[variable]
	return [2]Claim{
		c.narrowed(variable, span.Span{Low: whole.Low, High: bound}),
		c.narrowed(variable, span.Span{Low: bound + 1, High: whole.High}),
	}
}

func (c Claim) narrowed(variable int, to span.Span) Claim {
	spans := make([]span.Span, len(c.Spans))
	copy(spans, c.Spans)
	spans[variable] = to
	return Claim{spans, c.Given, c.Goal}
}

// Check returns OK if a proof proves a claim.
func Check(c Claim, p Proof) (int, api.Errno) {
	if err := CheckForm(c, p); err != api.OK {
		return 0, err
	}
	for s := range p.steps(c) {
		if err := s.wrong(); err != api.OK {
			return s.at, err
		}
	}
	return 0, api.OK
}

// wrong returns the error of a step that is not right for its claim.
func (s about) wrong() api.Errno {
	if s.Leaf {
		return list.ErrorIf(!s.proves(s.claim), api.ErrProof)
	}
	whole := s.claim.Spans[s.Variable]
	return list.ErrorIf(s.Bound < whole.Low || s.Bound >= whole.High, api.ErrBounds)
}

// left returns what is left of the goal when the given lines are taken away.
func (s Step) left(c Claim) Line {
	left := c.Goal.scaled(s.Goal)
	for i, l := range c.Given {
		left = left.plus(l, -s.Given[i])
	}
	return left
}

// proves reports whether a leaf is right for a claim.
func (s Step) proves(c Claim) bool {
	left := s.left(c)
	for variable, ends := range c.Spans {
		low, high := s.Low[variable], s.High[variable]
		left.Coeffs[variable] += high - low
		left.Const += low*ends.Low - high*ends.High
	}
	return !slices.ContainsFunc(left.Coeffs, func(coeff int) bool { return coeff != 0 }) && left.Const > -s.Goal
}

// Leaves returns the number of leaves of a proof.
func Leaves(p Proof) (int, api.Errno) {
	if err := p.sizeError(); err != api.OK {
		return 0, err
	}
	leaves := 0
	for _, s := range p.Steps {
		if s.Leaf {
			leaves++
		}
	}
	return leaves, api.OK
}
