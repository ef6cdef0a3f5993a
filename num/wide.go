package num

import (
	"math/bits"

	"halation/api"
)

// wide is an integer of 128 bits in two's complement. It holds all kinds' numbers, and their sums and differences, exactly.
type wide struct{ high, low uint64 }

// wideInt returns an int64 as a wide integer.
func wideInt(n int64) wide {
	return wide{uint64(n >> 63), uint64(n)}
}

// wideOf returns the number of a Bool or an integer.
func wideOf(v api.Value) wide {
	k := known(v.Kind)
	if !k.signed {
		return wide{0, v.Bits}
	}
	above := 64 - k.width
	return wideInt(int64(v.Bits<<above) >> above)
}

// wrapped returns the value of a kind whose bits are the low ones of n.
func wrapped(kind int, n wide) api.Value {
	above := 64 - known(kind).width
	return api.Value{Kind: kind, Bits: n.low << above >> above}
}

// clamped returns the value of a kind that is nearest to n.
func clamped(kind int, n wide) api.Value {
	for end, bits := range known(kind).ends {
		v := api.Value{Kind: kind, Bits: bits}
		if limit := wideOf(v); end == 0 && n.less(limit) || end == 1 && limit.less(n) {
			return v
		}
	}
	return wrapped(kind, n)
}

func (a wide) negative() bool {
	return int64(a.high) < 0
}

func (a wide) less(b wide) bool {
	if a.high != b.high {
		return int64(a.high) < int64(b.high)
	}
	return a.low < b.low
}

func (a wide) plus(b wide) wide {
	low, carry := bits.Add64(a.low, b.low, 0)
	high, _ := bits.Add64(a.high, b.high, carry)
	return wide{high, low}
}

func (a wide) minus(b wide) wide {
	low, borrow := bits.Sub64(a.low, b.low, 0)
	high, _ := bits.Sub64(a.high, b.high, borrow)
	return wide{high, low}
}

// times returns the product of the low halves: products are only ever wrapped, which needs no more.
func (a wide) times(b wide) wide {
	return wide{0, a.low * b.low}
}

// size returns the absolute value, which has at most 64 bits for the number of a kind.
func (a wide) size() uint64 {
	if a.negative() {
		return -a.low
	}
	return a.low
}

// divided returns the quotient and the remainder of two kinds' numbers, 0 and 0 for a division by 0.
func (a wide) divided(b wide) (wide, wide) {
	if b == (wide{}) {
		return wide{}, wide{}
	}
	divisor := b.size()
	quotient, rest := a.size()/divisor, a.size()%divisor
	if a.negative() && rest != 0 { // the remainder is never negative
		quotient, rest = quotient+1, divisor-rest
	}
	q := wide{0, quotient}
	if a.negative() != b.negative() {
		q = wide{}.minus(q)
	}
	return q, wide{0, rest}
}

func (a wide) quotient(b wide) wide {
	q, _ := a.divided(b)
	return q
}

func (a wide) remainder(b wide) wide {
	_, r := a.divided(b)
	return r
}

func (a wide) lesser(b wide) wide {
	if b.less(a) {
		return b
	}
	return a
}

func (a wide) greater(b wide) wide {
	if a.less(b) {
		return b
	}
	return a
}

func (a wide) and(b wide) wide { return wide{a.high & b.high, a.low & b.low} }
func (a wide) or(b wide) wide  { return wide{a.high | b.high, a.low | b.low} }
func (a wide) xor(b wide) wide { return wide{a.high ^ b.high, a.low ^ b.low} }

// outside reports whether a shift by n leaves no bit of a number: a negative n is, by its bits, at least half of its
// kind's numbers, and so not below any width.
func (n wide) outside() bool {
	return n.negative() || n.low >= 64
}

// shiftedLeft returns the low half of the product by a power of 2, which is only ever wrapped.
func (a wide) shiftedLeft(n wide) wide {
	if n.outside() {
		return wide{}
	}
	return wide{0, a.low << n.low}
}

func (a wide) shiftedRight(n wide) wide {
	if n.outside() {
		return wide{a.high, a.high} // a kind's number has only bits like its sign there
	}
	return wide{uint64(int64(a.high) >> n.low), a.low>>n.low | a.high<<(64-n.low)}
}

func (a wide) average(b wide) wide {
	return a.plus(b).plus(wide{0, 1}).shiftedRight(wide{0, 1})
}

func (a wide) distance(b wide) wide {
	return a.greater(b).minus(a.lesser(b))
}

// float returns the number of a kind, rounded to a float.
func (a wide) float() float32 {
	if a.negative() {
		return float32(int64(a.low))
	}
	return float32(a.low)
}
