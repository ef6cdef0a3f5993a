package num

import (
	"halation/api"
	"halation/list"
)

// operation is a binary operation: the classes of kinds that it takes, the kind of its results for a kind (nil: the
// same one), and how it is computed. A comparison holds or not; the others have a function for each class.
type operation struct {
	takes     int
	to        func(kind int) int
	exact     func(a, b wide) wide
	kept      func(kind int, n wide) api.Value
	floats    func(a, b float32) float32
	complexes func(a, b complex64) complex64
	holds     func(a, b scalar) bool
}

// operationOf returns what an Op from EAdd to ELe does.
func operationOf(op int) operation {
	const ordered = integral | floating
	table := [...]operation{
		api.EAdd - api.EAdd:    {takes: ordered | twofold, exact: wide.plus, kept: wrapped, floats: addFloats, complexes: addComplexes},
		api.ESub - api.EAdd:    {takes: ordered | twofold, exact: wide.minus, kept: wrapped, floats: subtractFloats, complexes: subtractComplexes},
		api.EMul - api.EAdd:    {takes: ordered | twofold, exact: wide.times, kept: wrapped, floats: multiplyFloats, complexes: multiplyComplexes},
		api.EDiv - api.EAdd:    {takes: ordered, exact: wide.quotient, kept: wrapped, floats: divideFloats},
		api.EMod - api.EAdd:    {takes: integral, exact: wide.remainder, kept: wrapped},
		api.EMin - api.EAdd:    {takes: ordered, exact: wide.lesser, kept: wrapped, floats: func(a, b float32) float32 { return min(a, b) }},
		api.EMax - api.EAdd:    {takes: ordered, exact: wide.greater, kept: wrapped, floats: func(a, b float32) float32 { return max(a, b) }},
		api.EAnd - api.EAdd:    {takes: logical | integral, exact: wide.and, kept: wrapped},
		api.EOr - api.EAdd:     {takes: logical | integral, exact: wide.or, kept: wrapped},
		api.EXor - api.EAdd:    {takes: logical | integral, exact: wide.xor, kept: wrapped},
		api.EShl - api.EAdd:    {takes: integral, exact: wide.shiftedLeft, kept: wrapped},
		api.EShr - api.EAdd:    {takes: integral, exact: wide.shiftedRight, kept: wrapped},
		api.ESatAdd - api.EAdd: {takes: integral, exact: wide.plus, kept: clamped},
		api.ESatSub - api.EAdd: {takes: integral, exact: wide.minus, kept: clamped},
		api.EAvg - api.EAdd:    {takes: integral, exact: wide.average, kept: wrapped},
		api.EDist - api.EAdd:   {takes: integral, to: unsigned, exact: wide.distance, kept: wrapped},
		api.EEq - api.EAdd:     {takes: logical | ordered | twofold, to: truth, holds: scalar.equal},
		api.ENe - api.EAdd:     {takes: logical | ordered | twofold, to: truth, holds: scalar.differs},
		api.ELt - api.EAdd:     {takes: ordered, to: truth, holds: scalar.less},
		api.ELe - api.EAdd:     {takes: ordered, to: truth, holds: scalar.atMost},
	}
	return table[op-api.EAdd]
}

func checkBinary(op int) api.Errno {
	return list.ErrorIf(op < api.EAdd || op > api.ELe, api.ErrKind)
}

// result returns the kind of an operation's results for a kind that it takes.
func (o operation) result(kind int) (int, api.Errno) {
	if o.takes&known(kind).class == 0 {
		return 0, api.ErrType
	}
	if o.to == nil {
		return kind, api.OK
	}
	return o.to(kind), api.OK
}

// unsigned returns the unsigned kind with the width of a kind of integers.
func unsigned(kind int) int {
	if IsSigned(kind) {
		return kind - api.I8 + api.U8
	}
	return kind
}

func truth(int) int { return api.Bool }

// Result returns the kind of the results of a binary operation.
func Result(op, kind int) (int, api.Errno) {
	if e := list.FirstError(checkBinary(op), CheckKind(kind)); e != api.OK {
		return 0, e
	}
	return operationOf(op).result(kind)
}

// Apply returns the result of a binary operation.
func Apply(op int, a, b api.Value) (api.Value, api.Errno) {
	if e := list.FirstError(checkBinary(op), CheckValue(a), CheckValue(b), requireKind(b, a.Kind)); e != api.OK {
		return api.Value{}, e
	}
	o := operationOf(op)
	kind, e := o.result(a.Kind)
	if e != api.OK {
		return api.Value{}, e
	}
	switch class := known(a.Kind).class; {
	case o.holds != nil:
		return boolValue(o.holds(scalar(a), scalar(b))), api.OK
	case class == floating:
		return floatValue(o.floats(floatOf(a), floatOf(b))), api.OK
	case class == twofold:
		return complexValue(o.complexes(complexOf(a), complexOf(b))), api.OK
	}
	return o.kept(kind, o.exact(wideOf(a), wideOf(b))), api.OK
}

// Not returns a value with all bits inverted.
func Not(v api.Value) (api.Value, api.Errno) {
	if e := CheckValue(v); e != api.OK {
		return api.Value{}, e
	}
	if known(v.Kind).class&(logical|integral) == 0 {
		return api.Value{}, api.ErrType
	}
	return wrapped(v.Kind, wide{0, ^v.Bits}), api.OK
}

func boolValue(b bool) api.Value {
	if b {
		return api.Value{Kind: api.Bool, Bits: 1}
	}
	return api.Value{Kind: api.Bool}
}

// The conversions to float32 keep each operation rounded on its own: a compiler may join a product and a sum without them.

func addFloats(a, b float32) float32      { return made(float32(a + b)) }
func subtractFloats(a, b float32) float32 { return made(float32(a - b)) }
func multiplyFloats(a, b float32) float32 { return made(float32(a * b)) }

func divideFloats(a, b float32) float32 {
	if b == 0 {
		return 0
	}
	return made(float32(a / b))
}

func addComplexes(a, b complex64) complex64 {
	return complex(addFloats(real(a), real(b)), addFloats(imag(a), imag(b)))
}

func subtractComplexes(a, b complex64) complex64 {
	return complex(subtractFloats(real(a), real(b)), subtractFloats(imag(a), imag(b)))
}

// multiplyComplexes makes each product a value before they are joined: two that are too large give 0, not NaN.
func multiplyComplexes(a, b complex64) complex64 {
	product := multiplyFloats
	return complex(
		subtractFloats(product(real(a), real(b)), product(imag(a), imag(b))),
		addFloats(product(real(a), imag(b)), product(imag(a), real(b))))
}
