package span

import (
	"math"
	"math/bits"
	"slices"

	"halation/api"
	"halation/list"
	"halation/num"
)

// operation is how the span of a binary operation's exact results is found. Where the ends of the operands, or single
// numbers, decide, at says what becomes of two numbers.
type operation struct {
	exact func(s setting, a, b Span) Span
	at    func(x, y int) int
}

// setting is what else the span of an operation depends on: what becomes of two numbers, the width of the operands'
// kind, and the whole span of the result's.
type setting struct {
	at    func(x, y int) int
	width int
	whole Span
}

// operationOf returns what is done for an Op from EAdd to ELe.
func operationOf(op int) operation {
	table := [...]operation{
		api.EAdd - api.EAdd:    {byEnds, sum},
		api.ESub - api.EAdd:    {byEnds, difference},
		api.EMul - api.EAdd:    {byEnds, product},
		api.EDiv - api.EAdd:    {quotients, quotient},
		api.EMod - api.EAdd:    {remainders, remainder},
		api.EMin - api.EAdd:    {byEnds, lesser},
		api.EMax - api.EAdd:    {byEnds, greater},
		api.EAnd - api.EAdd:    {ands, func(x, y int) int { return x & y }},
		api.EOr - api.EAdd:     {ors, func(x, y int) int { return x | y }},
		api.EXor - api.EAdd:    {xors, func(x, y int) int { return x ^ y }},
		api.EShl - api.EAdd:    {shifts, func(x, y int) int { return x << y }},
		api.EShr - api.EAdd:    {shifts, func(x, y int) int { return x >> y }},
		api.ESatAdd - api.EAdd: {saturated, sum},
		api.ESatSub - api.EAdd: {saturated, difference},
		api.EAvg - api.EAdd:    {byEnds, func(x, y int) int { return (x + y + 1) >> 1 }},
		api.EDist - api.EAdd:   {exact: distances},
		api.EEq - api.EAdd:     {exact: equalities},
		api.ENe - api.EAdd:     {exact: inequalities},
		api.ELt - api.EAdd:     {exact: lessThan},
		api.ELe - api.EAdd:     {exact: atMost},
	}
	return table[op-api.EAdd]
}

// Apply returns the span of the results of a binary operation.
func Apply(op, kind int, a, b Span) (Span, api.Errno) {
	if op < api.EAdd || op > api.ELe {
		return Span{}, api.ErrUnknown
	}
	_, err := Whole(kind)
	_, taken := num.Result(op, kind)
	if err := list.FirstError(err, taken, Check(kind, a), Check(kind, b)); err != api.OK {
		return Span{}, err
	}
	return applied(op, kind, a, b), api.OK
}

// applied returns the span of an operation that takes the small kind of two spans.
func applied(op, kind int, a, b Span) Span {
	to, _ := num.Result(op, kind)
	width, _ := num.Width(kind)
	o, whole := operationOf(op), wholeOf(to)
	return whole.kept(o.exact(setting{o.at, width, whole}, a, b))
}

func sum(x, y int) int        { return x + y }
func difference(x, y int) int { return x - y }
func lesser(x, y int) int     { return min(x, y) }
func greater(x, y int) int    { return max(x, y) }

// product returns the greatest int for what is beyond it: this is beyond all small kinds, too. Only numbers of U32
// have such products.
func product(x, y int) int {
	if x > 0 && y > math.MaxInt/x {
		return math.MaxInt
	}
	return x * y
}

// quotient returns the quotient by a number other than 0, whose remainder is never negative.
func quotient(x, y int) int {
	q := x / y
	switch {
	case x%y >= 0:
		return q
	case y > 0:
		return q - 1
	}
	return q + 1
}

func remainder(x, y int) int {
	return x - quotient(x, y)*y
}

// corners are what becomes of the ends of two spans.
type corners [4]int

func (s setting) corners(a, b Span) corners {
	return corners{s.at(a.Low, b.Low), s.at(a.Low, b.High), s.at(a.High, b.Low), s.at(a.High, b.High)}
}

// byEnds is for what rises, or falls, with each of two numbers alone.
func byEnds(s setting, a, b Span) Span {
	c := s.corners(a, b)
	return Span{slices.Min(c[:]), slices.Max(c[:])}
}

func saturated(s setting, a, b Span) Span {
	return s.whole.nearest(byEnds(s, a, b))
}

// quotients rise or fall with the divisor on either side of 0, where they are 0.
func quotients(s setting, a, b Span) Span {
	var found []Span
	if b.has(single(0)) {
		found = append(found, single(0))
	}
	for _, side := range [...]Span{{math.MinInt, -1}, {1, math.MaxInt}} {
		if divisors := b.common(side); !divisors.isEmpty() {
			found = append(found, byEnds(s, a, divisors))
		}
	}
	out := found[0]
	for _, more := range found[1:] {
		out = out.hull(more)
	}
	return out
}

func remainders(s setting, a, b Span) Span {
	by := b.Low
	if by != 0 && b == single(by) && quotient(a.Low, by) == quotient(a.High, by) {
		return Span{s.at(a.Low, by), s.at(a.High, by)}
	}
	most := max(0, b.High-1, -b.Low-1)
	if a.Low >= 0 {
		most = min(most, a.High)
	}
	return Span{0, most}
}

// bitwise returns the span of an operation bit by bit, which is the one given for numbers from 0 on.
func bitwise(s setting, a, b, natural Span) Span {
	switch {
	case [2]Span{a, b} == [2]Span{single(a.Low), single(b.Low)}:
		return single(s.at(a.Low, b.Low))
	case a.Low < 0 || b.Low < 0:
		return s.whole
	}
	return natural
}

func ands(s setting, a, b Span) Span {
	return bitwise(s, a, b, Span{0, min(a.High, b.High)})
}

func ors(s setting, a, b Span) Span {
	return bitwise(s, a, b, Span{max(a.Low, b.Low), ones(a, b)})
}

func xors(s setting, a, b Span) Span {
	return bitwise(s, a, b, Span{0, ones(a, b)})
}

// ones returns the number with all bits that numbers of two spans, from 0 on, may have.
func ones(a, b Span) int {
	return 1<<bits.Len(uint(max(a.High, b.High, 0))) - 1
}

func shifts(s setting, a, b Span) Span {
	if b.Low < 0 || b.High >= s.width {
		return s.whole
	}
	return byEnds(s, a, b)
}

func distances(_ setting, a, b Span) Span {
	return Span{max(0, a.Low-b.High, b.Low-a.High), max(a.High-b.Low, b.High-a.Low)}
}

func (s Span) isBelow(t Span) bool   { return s.High < t.Low }
func (s Span) isAtMost(t Span) bool  { return s.High <= t.Low }
func (s Span) isAbove(t Span) bool   { return t.isBelow(s) }
func (s Span) isAtLeast(t Span) bool { return t.isAtMost(s) }
func (s Span) isApart(t Span) bool   { return s.isBelow(t) || s.isAbove(t) }
func (s Span) isJust(t Span) bool    { return s == t && s == single(s.Low) }

// decided returns the span of a comparison that is true for all numbers of two spans, or for none, by their relation.
func decided(always, never func(a, b Span) bool, a, b Span) Span {
	switch {
	case always(a, b):
		return single(1)
	case never(a, b):
		return single(0)
	}
	return Span{0, 1}
}

func equalities(_ setting, a, b Span) Span   { return decided(Span.isJust, Span.isApart, a, b) }
func inequalities(_ setting, a, b Span) Span { return decided(Span.isApart, Span.isJust, a, b) }
func lessThan(_ setting, a, b Span) Span     { return decided(Span.isBelow, Span.isAtLeast, a, b) }
func atMost(_ setting, a, b Span) Span       { return decided(Span.isAtMost, Span.isAbove, a, b) }

// Not returns the span of inverted values.
func Not(kind int, a Span) (Span, api.Errno) {
	if err := Check(kind, a); err != api.OK {
		return Span{}, err
	}
	return inverted(kind, a), api.OK
}

// inverted turns the whole span of a kind round.
func inverted(kind int, a Span) Span {
	whole := wholeOf(kind)
	ends := whole.Low + whole.High
	return Span{ends - a.High, ends - a.Low}
}

// Convert returns the span of values of another kind.
func Convert(op, from, to int, a Span) (Span, api.Errno) {
	if op != api.ECast && op != api.ESat {
		return Span{}, api.ErrUnknown
	}
	_, fromError := Whole(from)
	_, toError := Whole(to)
	isTruth := from == api.Bool || to == api.Bool
	if err := list.FirstError(fromError, toError, list.ErrorIf(op == api.ESat && isTruth, api.ErrType), Check(from, a)); err != api.OK {
		return Span{}, err
	}
	return converted(op, to, a), api.OK
}

// converted returns the span of values that are converted to a small kind.
func converted(op, to int, a Span) Span {
	whole := wholeOf(to)
	switch {
	case op == api.ESat:
		return whole.nearest(a)
	case to == api.Bool:
		return inequalities(setting{}, a, single(0))
	}
	all := whole.High - whole.Low + 1
	moved := quotient(a.Low-whole.Low, all) * all
	return whole.kept(Span{a.Low - moved, a.High - moved})
}
