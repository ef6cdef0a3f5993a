package num

import (
	"strconv"

	"halation/api"
	"halation/list"
)

const (
	floatEnd     = "f32"
	complexStart = "c64("
	complexEnd   = ")"
	between      = ","
	power        = "p"

	fractionBits = 23   // the bits of a float32 below its exponent
	leastPower   = -149 // the exponent of the least float32 above 0
)

// Text returns the string of a value.
func Text(v api.Value) (string, api.Errno) {
	if e := CheckValue(v); e != api.OK {
		return "", e
	}
	a := scalar(v)
	write := a.integerText
	switch known(v.Kind).class {
	case logical:
		write = a.boolText
	case floating:
		write = a.floatText
	case twofold:
		write = a.complexText
	}
	return write(), api.OK
}

func (a scalar) boolText() string {
	return strconv.FormatBool(a.Bits == 1)
}

func (a scalar) integerText() string {
	sign, n := "", wideOf(api.Value(a))
	if n.negative() {
		sign = "-"
	}
	return joined(sign, strconv.FormatUint(n.size(), 10), known(a.Kind).name)
}

func (a scalar) floatText() string {
	return joined(powerText(uint32(a.Bits)), floatEnd)
}

func (a scalar) complexText() string {
	parts := list.Map([]int{0, 32}, func(shift int) string { return powerText(uint32(a.Bits >> shift)) })
	return joined(complexStart, parts[0], between, parts[1], complexEnd)
}

// powerText returns a float as its mantissa and its exponent.
func powerText(bits uint32) string {
	sign := ""
	if bits>>31 == 1 {
		sign = "-"
	}
	mantissa, exponent := oddMantissa(bits)
	return joined(sign, strconv.Itoa(mantissa), power, strconv.Itoa(exponent))
}

// oddMantissa returns m and e of a right float of the size m times 2 to the power of e: m is odd, or both are 0.
func oddMantissa(bits uint32) (int, int) {
	raised := int(bits << 1 >> (fractionBits + 1))
	m, e := int(bits&(1<<fractionBits-1)), leastPower
	if raised > 0 { // not so small that the leading bit is written
		m, e = m|1<<fractionBits, leastPower+raised-1
	}
search:
	for zeros := range fractionBits + 1 {
		switch {
		case m == 0:
			e = 0
			break search
		case m>>zeros&1 == 1:
			m, e = m>>zeros, e+zeros
			break search
		}
	}
	return m, e
}

// joined returns the parts one after the other.
func joined(parts ...string) string {
	size := 0
	for _, p := range parts {
		size += len(p)
	}
	out := make([]byte, size)
	at := 0
	for _, p := range parts {
		at += copy(out[at:], p)
	}
	return string(out)
}
