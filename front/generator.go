package front

import (
	"slices"
	"strconv"
	"strings"

	"halation/api"
	"halation/expr"
	"halation/list"
	"halation/text"
)

// Limits of generators.
const (
	MaxInts       = 4   // integers of a generator
	MaxKinds      = 2   // kinds of a generator
	MaxLines      = 128 // lines of a generator
	MaxExpanded   = 256 // lines after expanding
	MaxRepeat     = 16  // times of a repetition
	MaxNested     = 3   // repetitions in one another
	MaxGenerators = 16
)

// IntParam is an integer of a generator, from Low to High.
type IntParam struct {
	Name string
	Low  int
	High int
}

// Generator is lines with references to integers and kinds.
type Generator struct {
	Name  string
	Ints  []IntParam
	Kinds []string
	Lines []string
}

// What begins the lines that are not one of a generator's.
const (
	intStart  = "int "
	kindStart = "kind "
	lastLine  = "end"
)

// CheckGenerator returns the index of the first wrong line of a generator (-1: its head), and the error.
func CheckGenerator(g Generator) (int, api.Errno) {
	names, err := namesOf(g)
	if err != api.OK {
		return -1, err
	}
	c := checker{known: names}
	for i, line := range g.Lines {
		if err := c.lineError(line); err != api.OK {
			return i, err
		}
	}
	if len(c.open) > 0 {
		return len(g.Lines), api.ErrState
	}
	return 0, api.OK
}

// The sorts of names that references have.
const (
	aNumber = 1 + iota
	aKind   // 2
)

// sorts are those of the names that are known somewhere.
type sorts map[string]int

// add adds a name, and returns its error.
func (l sorts) add(name string, sort int) api.Errno {
	err := list.FirstError(list.ErrorIf(!expr.IsName(name), api.ErrName), list.ErrorIf(l[name] != 0, api.ErrTwice))
	if err == api.OK {
		l[name] = sort
	}
	return err
}

// namesOf returns the names of a generator, or the error of its head.
func namesOf(g Generator) (sorts, api.Errno) {
	err := list.FirstError(
		list.ErrorIf(!expr.IsName(g.Name), api.ErrName),
		list.ErrorIf(len(g.Ints) > MaxInts || len(g.Kinds) > MaxKinds || len(g.Lines) > MaxLines, api.ErrMany))
	if err != api.OK {
		return nil, err
	}
	names := sorts{}
	for _, x := range g.Ints {
		if err := list.FirstError(names.add(x.Name, aNumber), boundsError(x)); err != api.OK {
			return nil, err
		}
	}
	for _, name := range g.Kinds {
		if err := names.add(name, aKind); err != api.OK {
			return nil, err
		}
	}
	return names, api.OK
}

func boundsError(x IntParam) api.Errno {
	isFar := func(n int) bool { return n < -api.MaxExtent || n > api.MaxExtent }
	return list.FirstError(list.ErrorIf(isFar(x.Low) || isFar(x.High), api.ErrRange), list.ErrorIf(x.Low > x.High, api.ErrOrder))
}

// checker examines the lines of a generator, with the names that are known there.
type checker struct {
	known sorts
	open  []string // the names of the repetitions around
}

func (c *checker) lineError(line string) api.Errno {
	if strings.Contains(line, "\n") || line == lastLine || strings.HasPrefix(line, intStart) || strings.HasPrefix(line, kindStart) {
		return api.ErrForm
	}
	refs, ok := references(line)
	head, isRepeat, isRight := repetitionOf(line)
	isDone, isAlone := doneOf(line)
	switch {
	case !ok || isRepeat && !isRight || isDone && !isAlone:
		return api.ErrSyntax
	case isRepeat:
		return c.repeat(head, refs)
	}
	if err := c.unknownError(refs); err != api.OK {
		return err
	}
	if err := c.sumsError(refs); err != api.OK || !isDone {
		return err
	}
	return c.leave()
}

// repeat enters a repetition, the bounds of which stand outside of it.
func (c *checker) repeat(head repetition, refs []reference) api.Errno {
	_, twice := c.known[head.name]
	err := list.FirstError(
		list.ErrorIf(!expr.IsName(head.name), api.ErrName),
		list.ErrorIf(twice, api.ErrTwice),
		list.ErrorIf(len(c.open) == MaxNested, api.ErrMany),
		c.unknownError(refs),
		c.sumsError(refs),
		list.ErrorIf(c.boundSorts(head) != [2]int{aNumber, aNumber}, api.ErrType))
	if err != api.OK {
		return err
	}
	c.known[head.name] = aNumber
	c.open = append(c.open, head.name)
	return api.OK
}

// boundSorts returns what the bounds of a repetition are.
func (c *checker) boundSorts(head repetition) [2]int {
	sorts := [2]int{aNumber, aNumber}
	for i, bound := range head.bounds {
		if r, size := referenceAt(bound); size > 0 {
			sorts[i] = c.known[r.name]
		}
	}
	return sorts
}

// leave leaves the innermost repetition.
func (c *checker) leave() api.Errno {
	if len(c.open) == 0 {
		return api.ErrState
	}
	last := len(c.open) - 1
	delete(c.known, c.open[last])
	c.open = c.open[:last]
	return api.OK
}

func (c *checker) unknownError(refs []reference) api.Errno {
	isUnknown := func(r reference) bool { return c.known[r.name] == 0 }
	return list.ErrorIf(slices.ContainsFunc(refs, isUnknown), api.ErrUnknown)
}

// sumsError returns the error of a sum with a kind.
func (c *checker) sumsError(refs []reference) api.Errno {
	isWrong := func(r reference) bool { return r.isSum && c.known[r.name] == aKind }
	return list.ErrorIf(slices.ContainsFunc(refs, isWrong), api.ErrType)
}

// PrintGenerators returns the text of generators.
func PrintGenerators(l []Generator) (string, api.Errno) {
	if len(l) > MaxGenerators {
		return "", api.ErrMany
	}
	for _, g := range l {
		if _, err := CheckGenerator(g); err != api.OK {
			return "", err
		}
	}
	for i, g := range l {
		if isNamed(l[:i], g.Name) {
			return "", api.ErrTwice
		}
	}
	var w printer
	for _, g := range l {
		w.generator(g)
	}
	return w.text()
}

func isNamed(l []Generator, name string) bool {
	return slices.ContainsFunc(l, func(g Generator) bool { return g.Name == name })
}

func (w *printer) generator(g Generator) {
	w.line("generator", g.Name)
	for _, x := range g.Ints {
		w.line("int", x.Name, strconv.Itoa(x.Low), strconv.Itoa(x.High))
	}
	for _, name := range g.Kinds {
		w.line("kind", name)
	}
	for _, line := range g.Lines {
		w.line(line)
	}
	w.line(lastLine)
}

// What a reader of generators is in.
const (
	between = iota
	ints    // 1: in the head of a generator, where integers may come
	kinds   // 2: where kinds may come
	body    // 3
)

// generatorReader reads generators. The place is that of the first error, if there is one.
type generatorReader struct {
	place
	Generator // as far as it has been read
	in        int
	start     int // its first line
	all       []Generator
}

// Generators returns the generators of a text, or the first wrong line.
func Generators(s string) ([]Generator, int, api.Errno) {
	if len(s) > api.MaxText {
		return nil, 0, api.ErrLong
	}
	var r generatorReader
	err := r.visit(s, r.take)
	if err := list.FirstError(err, list.ErrorIf(r.in != between, api.ErrSyntax)); err != api.OK {
		return nil, r.line, err
	}
	return r.all, 0, api.OK
}

// take reads a line.
func (r *generatorReader) take(line string) api.Errno {
	switch {
	case r.in == between:
		return r.begin(line)
	case r.in == ints && strings.HasPrefix(line, intStart):
		return r.readInt(line)
	case r.in != body && strings.HasPrefix(line, kindStart):
		r.in = kinds
		words, err := fields(line, 2)
		if err == api.OK {
			r.Kinds = append(r.Kinds, words[1])
		}
		return err
	case line == lastLine:
		return r.finish()
	}
	r.in = body
	r.Lines = append(r.Lines, line)
	return api.OK
}

func (r *generatorReader) begin(line string) api.Errno {
	words, err := fields(line, 2)
	if err := list.FirstError(err, list.ErrorIf(!strings.HasPrefix(line, "generator "), api.ErrSyntax), list.ErrorIf(len(r.all) == MaxGenerators, api.ErrMany)); err != api.OK {
		return err
	}
	r.Generator = Generator{Name: words[1]}
	r.in, r.start = ints, r.line
	return api.OK
}

func (r *generatorReader) readInt(line string) api.Errno {
	words, err := fields(line, 4)
	if err != api.OK {
		return err
	}
	bounds, err := pair(words[2], words[3], someDigits)
	r.Ints = append(r.Ints, IntParam{words[1], int(bounds[0]), int(bounds[1])})
	return err
}

// finish ends a generator, whose errors have the place of its first line.
func (r *generatorReader) finish() api.Errno {
	_, err := CheckGenerator(r.Generator)
	if err := list.FirstError(err, list.ErrorIf(isNamed(r.all, r.Name), api.ErrTwice)); err != api.OK {
		r.line = r.start
		return err
	}
	r.all = append(r.all, r.Generator)
	r.in = between
	return api.OK
}

// repetition is the line with which one begins.
type repetition struct {
	name   string
	bounds [2]string
}

// repetitionOf returns the repetition that a line begins; whether its first word says so; and whether it has the form.
func repetitionOf(line string) (repetition, bool, bool) {
	if first, _, _ := strings.Cut(line, " "); first != "repeat" {
		return repetition{}, false, false
	}
	words, err := fields(line, 4)
	if err != api.OK {
		return repetition{}, true, false
	}
	return repetition{words[1], [2]string{words[2], words[3]}}, true, isBound(words[2]) && isBound(words[3])
}

// isBound reports whether a word is an integer or a reference.
func isBound(word string) bool {
	_, isInteger := text.Integer(word, someDigits)
	_, size := referenceAt(word)
	return isInteger || size > 0 && size == len(word)
}

// doneOf reports whether the first word of a line ends a repetition, and whether it is the line.
func doneOf(line string) (bool, bool) {
	first, _, more := strings.Cut(line, " ")
	return first == "done", !more
}
