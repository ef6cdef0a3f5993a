package lang

import (
	"iter"
	"strings"

	"halation/api"
	"halation/list"
)

const (
	highest = 7  // the level of all expressions that are not those of a sign with two operands
	noLevel = -1 // that of a sign that does not stand between two operands
)

// plainSigns are the signs of one byte that stand between no operands.
const plainSigns = "()[]{},!"

// signed is an Op with its sign, of one byte (the other one is 0) or two.
type signed struct {
	sign [2]byte
	op   int
}

// signTable has the Ops that have a sign, by their levels.
var signTable = [highest][4]signed{
	{{[2]byte{'=', '='}, api.EEq}, {[2]byte{'!', '='}, api.ENe}, {[2]byte{'<'}, api.ELt}, {[2]byte{'<', '='}, api.ELe}},
	{{[2]byte{'|'}, api.EOr}},
	{{[2]byte{'^'}, api.EXor}},
	{{[2]byte{'&'}, api.EAnd}},
	{{[2]byte{'<', '<'}, api.EShl}, {[2]byte{'>', '>'}, api.EShr}},
	{{[2]byte{'+'}, api.EAdd}, {[2]byte{'-'}, api.ESub}},
	{{[2]byte{'*'}, api.EMul}, {[2]byte{'/'}, api.EDiv}, {[2]byte{'%'}, api.EMod}},
}

// signs visits the Ops that have a sign, with their levels.
func signs() iter.Seq2[int, signed] {
	return func(yield func(int, signed) bool) {
		for level := range highest {
			for _, s := range signTable[level] {
				if s.sign != [2]byte{} && !yield(level, s) {
					return
				}
			}
		}
	}
}

// text returns a sign as it is written.
func text(sign [2]byte) string {
	if sign[1] == 0 {
		return string(sign[:1])
	}
	return string(sign[:])
}

// Sign returns the sign of an Op, and its level.
func Sign(op int) (string, int, api.Errno) {
	for level, s := range signs() {
		if s.op == op {
			return text(s.sign), level, api.OK
		}
	}
	return "", 0, api.ErrUnknown
}

// SignOp returns the Op with a sign.
func SignOp(s string) (int, api.Errno) {
	op, level := operator(s)
	return op, list.ErrorIf(level == noLevel, api.ErrUnknown)
}

// operator returns the Op with a sign, and its level, which is below all others if the sign has none.
func operator(s string) (int, int) {
	var sign [2]byte
	copy(sign[:], s)
	for level, known := range signs() {
		if known.sign == sign && text(sign) == s {
			return known.op, level
		}
	}
	return 0, noLevel
}

// signAt returns the longest sign at the start of a text, or "" if there is none.
func signAt(s string) string {
	var two [2]byte
	copy(two[:], s)
	for _, sign := range [][2]byte{two, {two[0]}} {
		if isSign(sign) {
			return text(sign)
		}
	}
	return ""
}

func isSign(sign [2]byte) bool {
	for _, known := range signs() {
		if known.sign == sign {
			return true
		}
	}
	return sign[1] == 0 && strings.IndexByte(plainSigns, sign[0]) >= 0
}
