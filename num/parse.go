package num

import (
	"math"
	"strconv"
	"strings"

	"halation/api"
)

const (
	maxBytes          = 64
	maxIntegerDigits  = 20
	maxMantissaDigits = 8
	maxExponentDigits = 3
)

// Parse returns the value of a string.
func Parse(s string) (api.Value, api.Errno) {
	switch {
	case len(s) > maxBytes:
		return api.Value{}, api.ErrLong
	case s == "true", s == "false":
		return boolValue(s == "true"), api.OK
	}
	if parts, ok := strings.CutPrefix(s, complexStart); ok {
		return parseComplex(parts)
	}
	if x, rest, ok := cutPower(s); ok {
		return parseFloat(x, rest)
	}
	return parseInteger(s)
}

func parseInteger(s string) (api.Value, api.Errno) {
	number, name, ok := cutNumber(s, maxIntegerDigits)
	kind, e := Kind(name)
	if !ok || e != api.OK || !IsInt(kind) {
		return api.Value{}, api.ErrSyntax
	}
	n, ok := integerOf(number, kind)
	if !ok {
		return api.Value{}, api.ErrRange
	}
	return wrapped(kind, n), api.OK
}

// integerOf returns the integer that a string of digits is, if the kind has it.
func integerOf(number string, kind int) (wide, bool) {
	width := known(kind).width
	if IsSigned(kind) {
		n, err := strconv.ParseInt(number, 10, width)
		return wideInt(n), err == nil
	}
	n, err := strconv.ParseUint(number, 10, width)
	return wide{0, n}, err == nil
}

func parseFloat(x written, rest string) (api.Value, api.Errno) {
	if rest != floatEnd {
		return api.Value{}, api.ErrSyntax
	}
	f, ok := x.float()
	if !ok {
		return api.Value{}, api.ErrRange
	}
	return floatValue(f), api.OK
}

// parseComplex reads what follows the start of a complex number. Both parts are read before one is found to be no float.
func parseComplex(s string) (api.Value, api.Errno) {
	re, s, isPower := cutPower(s)
	s, isPair := strings.CutPrefix(s, between)
	im, s, isPowers := cutPower(s)
	if !isPower || !isPair || !isPowers || s != complexEnd {
		return api.Value{}, api.ErrSyntax
	}
	x, isFloat := re.float()
	y, isFloats := im.float()
	if !isFloat || !isFloats {
		return api.Value{}, api.ErrRange
	}
	return complexValue(complex(x, y)), api.OK
}

// written is the mantissa and the exponent that a string has.
type written struct{ mantissa, exponent int }

// float returns the float, if this is how its string has it.
func (w written) float() (float32, bool) {
	if w.mantissa == 0 {
		return 0, w.exponent == 0
	}
	exact := math.Ldexp(float64(w.mantissa), w.exponent)
	x := made(float32(exact))
	return x, w.mantissa&1 == 1 && float64(x) == exact
}

// cutPower returns the mantissa and the exponent at the start of a string, and what follows them.
func cutPower(s string) (written, string, bool) {
	mantissa, s, isMantissa := cutNumber(s, maxMantissaDigits)
	s, isPower := strings.CutPrefix(s, power)
	exponent, s, isExponent := cutNumber(s, maxExponentDigits)
	if !isMantissa || !isPower || !isExponent {
		return written{}, "", false
	}
	m, _ := strconv.Atoi(mantissa) // so few digits are always an int
	e, _ := strconv.Atoi(exponent)
	return written{m, e}, s, true
}

// cutNumber returns the number at the start of a string, and what follows it. It has 1 to most digits, neither a
// leading zero nor the form -0.
func cutNumber(s string, most int) (number, rest string, ok bool) {
	digits := strings.TrimPrefix(s, "-")
	size := len(digits)
	for i, r := range digits {
		if r < '0' || r > '9' {
			size = i
			break
		}
	}
	if size < 1 || size > most {
		return "", "", false
	}
	end := len(s) - len(digits) + size
	number, rest = s[:end], s[end:]
	zeroFirst := digits[0] == '0'
	return number, rest, !zeroFirst || number == "0"
}
