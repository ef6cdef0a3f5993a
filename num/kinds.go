// Package num is layer 1, the arithmetic of scalar values: see shared/doc/01-num.md.
package num

import (
	"iter"

	"halation/api"
	"halation/list"
)

// The classes of kinds. An operation takes all kinds of a class or none of them, so its classes are joined with |.
const (
	logical = 1 << iota
	integral
	floating
	twofold
)

// traits is what the arithmetic has to know of a kind.
type traits struct {
	class  int
	width  int
	signed bool      // with numbers below 0 in two's complement
	ends   [2]uint64 // the bits of the least and the greatest value
}

// namedKind is a kind with its name.
type namedKind struct {
	name string
	traits
}

var kindTable = [api.Kinds]namedKind{
	{"bool", traits{logical, 1, false, [2]uint64{0, 1}}},
	{"u8", traits{integral, 8, false, [2]uint64{0, 1<<8 - 1}}},
	{"u16", traits{integral, 16, false, [2]uint64{0, 1<<16 - 1}}},
	{"u32", traits{integral, 32, false, [2]uint64{0, 1<<32 - 1}}},
	{"u64", traits{integral, 64, false, [2]uint64{0, 1<<64 - 1}}},
	{"i8", traits{integral, 8, true, [2]uint64{1 << 7, 1<<7 - 1}}},
	{"i16", traits{integral, 16, true, [2]uint64{1 << 15, 1<<15 - 1}}},
	{"i32", traits{integral, 32, true, [2]uint64{1 << 31, 1<<31 - 1}}},
	{"i64", traits{integral, 64, true, [2]uint64{1 << 63, 1<<63 - 1}}},
	{"f32", traits{floating, 32, false, [2]uint64{0xff7fffff, 0x7f7fffff}}},
	{"c64", traits{twofold, 64, false, [2]uint64{}}},
}

// kinds visits all kinds in their order.
func kinds() iter.Seq2[int, namedKind] {
	return func(yield func(int, namedKind) bool) {
		for kind := range api.Kinds {
			if !yield(kind, kindTable[kind]) {
				return
			}
		}
	}
}

// known returns what is known of a kind. What is no kind belongs to no class, so callers may ask for the class alone.
func known(kind int) namedKind {
	if CheckKind(kind) != api.OK {
		return namedKind{}
	}
	return kindTable[kind]
}

// CheckKind returns ErrKind if there is no such kind, or OK.
func CheckKind(kind int) api.Errno {
	return list.ErrorIf(kind < 0 || kind >= api.Kinds, api.ErrKind)
}

// Name returns the name of a kind.
func Name(kind int) (string, api.Errno) {
	return known(kind).name, CheckKind(kind)
}

// Kind returns the kind with a name.
func Kind(name string) (int, api.Errno) {
	byName := map[string]int{}
	for kind, k := range kinds() {
		byName[k.name] = kind
	}
	kind, ok := byName[name]
	if !ok {
		return 0, api.ErrUnknown
	}
	return kind, api.OK
}

// Width returns how many bits the values of a kind have.
func Width(kind int) (int, api.Errno) {
	return known(kind).width, CheckKind(kind)
}

// IsInt reports whether a kind is one of integers.
func IsInt(kind int) bool {
	return known(kind).class == integral
}

// IsSigned reports whether a kind is one of signed integers.
func IsSigned(kind int) bool {
	return known(kind).signed
}
