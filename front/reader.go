package front

import (
	"slices"
	"strings"

	"halation/api"
	"halation/expr"
	"halation/lang"
	"halation/list"
	"halation/num"
	"halation/pipe"
	"halation/text"
)

// How many digits integers have at most.
const (
	someDigits = 8
	manyDigits = 19 // those that bound parameters
)

// place is where a reader is in a text.
type place struct {
	line   int
	column int
}

// visit takes the lines of a text, without their line feeds, until there is an error; then the place is its.
func (at *place) visit(s string, take func(line string) api.Errno) api.Errno {
	err := api.OK
reading:
	for line := range strings.Lines(s) {
		content, isEnded := strings.CutSuffix(line, "\n")
		if !isEnded {
			err = api.ErrSyntax
			break reading
		}
		if err = take(content); err != api.OK {
			break reading
		}
		at.line++
	}
	return err
}

// What a reader of a pipeline has read.
const (
	nothing   = 1 << iota
	inputs    // 1 << 1: the name and inputs
	params    // 1 << 2: parameters, too
	functions // 1 << 3: a function, perhaps with updates
	axes      // 1 << 4: axes of an update
	condition // 1 << 5: the condition of an update
	all       // 1 << 6
)

// lineForm is what lines with a first word may be: what has been read before them, and then; whether they are the word
// alone; and how the rest is read.
type lineForm struct {
	word   string
	before int
	then   int
	alone  bool
	read   func(r *reader, rest string) api.Errno
}

// formOf returns the form of lines with a first word, an empty one if there is none.
func formOf(word string) lineForm {
	table := [...]lineForm{
		{"pipeline", nothing, inputs, false, (*reader).readName},
		{"input", inputs, inputs, false, (*reader).readInput},
		{"param", inputs | params, params, false, (*reader).readParam},
		{"func", inputs | params | functions, functions, false, (*reader).readFunction},
		{"over", functions | axes, axes, false, (*reader).readAxis},
		{"where", functions | axes, condition, false, (*reader).readWhere},
		{"set", functions | axes | condition, functions, false, (*reader).readSet},
		{"end", inputs | params | functions, all, true, (*reader).readNothing},
	}
	for _, form := range table {
		if form.word == word {
			return form
		}
	}
	return lineForm{}
}

// reader reads a pipeline. The place is that of the first error, if there is one.
type reader struct {
	place
	api.Pipeline
	done   int
	size   int // of the line
	decls  []declaration
	update api.Update // as far as it has been read
}

// declaration is one that can be compared with others.
type declaration lang.Decl

// clashes reports whether there can be just one of two declarations.
func (d declaration) clashes(e declaration) bool {
	return d.Op == e.Op && d.Name == e.Name
}

// Parse returns the pipeline of a text, or the line and the column of the first error.
func Parse(s string) (api.Pipeline, int, int, api.Errno) {
	if len(s) > api.MaxText {
		return api.Pipeline{}, 0, 0, api.ErrLong
	}
	r := reader{done: nothing}
	err := r.visit(s, r.take)
	if err := list.FirstError(err, list.ErrorIf(r.done != all, api.ErrSyntax)); err != api.OK {
		return api.Pipeline{}, r.line, r.column, err
	}
	if at, err := pipe.Check(r.Pipeline); err != api.OK {
		return api.Pipeline{}, lineOf(r.Pipeline, at), 0, err
	}
	return r.Pipeline, 0, 0, api.OK
}

// take reads a line.
func (r *reader) take(line string) api.Errno {
	word, rest, more := strings.Cut(line, " ")
	form := formOf(word)
	if form.before&r.done == 0 || more == form.alone {
		return api.ErrSyntax
	}
	r.done, r.size = form.then, len(line)
	return form.read(r, rest)
}

// fields returns the words of the rest of a line, of which there must be so many.
func fields(rest string, count int) ([]string, api.Errno) {
	words, _ := text.Words(rest) // none, if they are not separated as they should be
	if len(words) != count {
		return nil, api.ErrSyntax
	}
	return words, api.OK
}

// pair returns the numbers of two integers.
func pair(low, high string, digits int) ([2]int64, api.Errno) {
	first, isFirst := text.Integer(low, digits)
	second, isSecond := text.Integer(high, digits)
	return [2]int64{first, second}, list.ErrorIf(!isFirst || !isSecond, api.ErrSyntax)
}

// declare lets the lines behind this one see something, if that can be declared.
func (r *reader) declare(op int, name string, kind int) {
	d := declaration{op, name, kind}
	if expr.IsName(name) && len(r.decls) < lang.MaxDecls && !has(r.decls, d, declaration.clashes) {
		r.decls = append(r.decls, d)
	}
}

// has reports whether something of a list is as good as x.
func has[T any](l []T, x T, same func(T, T) bool) bool {
	return slices.ContainsFunc(l, func(y T) bool { return same(x, y) })
}

func (r *reader) readNothing(string) api.Errno {
	return api.OK
}

func (r *reader) readName(rest string) api.Errno {
	words, err := fields(rest, 1)
	if err == api.OK {
		r.Name = words[0]
	}
	return err
}

func (r *reader) readInput(rest string) api.Errno {
	words, err := fields(rest, 3)
	if err != api.OK {
		return err
	}
	dims, ok := text.Integer(words[2], someDigits)
	kind, err := num.Kind(words[1])
	r.Inputs = append(r.Inputs, api.Input{Name: words[0], Kind: kind, Dims: int(dims)})
	r.declare(api.EImage, words[0], kind)
	return list.FirstError(list.ErrorIf(!ok, api.ErrSyntax), err)
}

func (r *reader) readParam(rest string) api.Errno {
	words, err := fields(rest, 4)
	if err != api.OK {
		return err
	}
	bounds, formErr := pair(words[2], words[3], manyDigits)
	kind, err := num.Kind(words[1])
	r.Params = append(r.Params, api.Param{Name: words[0], Kind: kind, Low: bounds[0], High: bounds[1]})
	r.declare(api.EParam, words[0], kind)
	return list.FirstError(formErr, err)
}

// isPart reports whether a word can be part of the head of a function.
func isPart(word string) bool {
	return word != "" && !strings.ContainsAny(word, " (),")
}

func (r *reader) readFunction(rest string) api.Errno {
	name, rest, _ := strings.Cut(rest, "(") // without a bracket, some part behind it is empty
	args, rest, _ := strings.Cut(rest, ")")
	rest, spaced := strings.CutPrefix(rest, " ")
	kindName, value, defined := strings.Cut(rest, " = ")
	fn := api.Func{Name: name, Args: strings.Split(args, ", ")}
	for _, part := range append([]string{name, kindName}, fn.Args...) {
		if !isPart(part) {
			return api.ErrSyntax
		}
	}
	kind, err := num.Kind(kindName)
	if err := list.FirstError(list.ErrorIf(!spaced || !defined, api.ErrSyntax), err); err != api.OK {
		return err
	}
	fn.Kind = kind
	if fn.Value, err = r.expression(value); err != api.OK {
		return err
	}
	r.Funcs = append(r.Funcs, fn)
	r.declare(api.ECall, name, kind)
	return api.OK
}

func (r *reader) readAxis(rest string) api.Errno {
	words, err := fields(rest, 3)
	if err != api.OK {
		return err
	}
	bounds, err := pair(words[1], words[2], someDigits)
	r.update.Domain = append(r.update.Domain, api.Axis{Name: words[0], Range: api.Range{Min: int(bounds[0]), Extent: int(bounds[1])}})
	return err
}

func (r *reader) readWhere(rest string) api.Errno {
	where, err := r.expression(rest)
	r.update.Where = where
	return err
}

func (r *reader) readSet(rest string) api.Errno {
	left, value, ok := strings.Cut(rest, " = ")
	if !ok {
		return api.ErrSyntax
	}
	var err api.Errno
	var at int
	if r.update.Left, at, err = lang.ParseList(left, r.seen()); err != api.OK {
		r.column = r.size - len(rest) + at
		return err
	}
	if r.update.Value, err = r.expression(value); err != api.OK {
		return err
	}
	fn := &r.Funcs[len(r.Funcs)-1]
	fn.Updates = append(fn.Updates, r.update)
	r.update = api.Update{}
	return api.OK
}

// expression reads an expression at the end of a line.
func (r *reader) expression(s string) (api.Expr, api.Errno) {
	e, at, err := lang.Parse(s, r.seen())
	if err != api.OK {
		r.column = r.size - len(s) + at
	}
	return e, err
}

// seen returns the declarations of the lines before.
func (r *reader) seen() []lang.Decl {
	return list.Map(r.decls, func(d declaration) lang.Decl { return lang.Decl(d) })
}
