package front

import (
	"strconv"
	"strings"

	"halation/expr"
	"halation/text"
)

// reference is a reference in a line: the name, and what is added to its number.
type reference struct {
	name  string
	isSum bool
	add   int
}

const (
	mark      = "#"
	addDigits = 3
)

// references returns the references of a line, if no mark in it is something else.
func references(line string) ([]reference, bool) {
	var out []reference
	for at := strings.Index(line, mark); at >= 0; at = strings.Index(line, mark) {
		r, size := referenceAt(line[at:])
		if size == 0 {
			return nil, false
		}
		out = append(out, r)
		line = line[at+size:]
	}
	return out, true
}

// referenceAt returns the reference at the start of a text, and how many bytes it has, 0 if there is none.
func referenceAt(s string) (reference, int) {
	rest, ok := strings.CutPrefix(s, mark)
	if !ok {
		return reference{}, 0
	}
	if sum, ok := strings.CutPrefix(rest, "("); ok {
		return sumOf(sum)
	}
	name := rest[:nameSize(rest)]
	if !expr.IsName(name) {
		return reference{}, 0
	}
	return reference{name: name}, len(mark) + len(name)
}

// sumOf returns the reference whose mark and parenthesis stand before a text.
func sumOf(s string) (reference, int) {
	name := s[:nameSize(s)]
	term, _, closed := strings.Cut(s[len(name):], ")")
	if !closed || term == "" {
		return reference{}, 0
	}
	sign, digits := term[:1], term[1:]
	if !expr.IsName(name) || sign != "+" && sign != "-" || len(digits) > addDigits || !text.AreDigits(digits) {
		return reference{}, 0
	}
	add, _ := strconv.Atoi(term)
	return reference{name, true, add}, len(mark) + len("(") + len(name) + len(term) + len(")")
}

// nameSize counts the letters, digits and _ at the start of a text.
func nameSize(s string) int {
	for i, r := range s {
		if !isNamePart(r) {
			return i
		}
	}
	return len(s)
}

func isNamePart(r rune) bool {
	return 'a' <= r && r <= 'z' || 'A' <= r && r <= 'Z' || '0' <= r && r <= '9' || r == '_'
}
