package loop

import (
	"strconv"
	"strings"

	"halation/api"
	"halation/lang"
	"halation/list"
	"halation/num"
)

const (
	separator = " ; "
	between   = ", "
	opening   = " {"
	closing   = "}"
	otherwise = "} else {"
	toHost    = " to host"
	toDevice  = " to device"
)

// The first words of the lines of buffers, parameters and statements; a loop's is that of its kind.
const (
	bufferWord = "buffer"
	paramWord  = "param"
	blockWord  = "block"
	allocWord  = "alloc"
	storeWord  = "store"
	ifWord     = "if"
	letWord    = "let"
	assertWord = "assert"
	markWord   = "mark"
	copyWord   = "copy"
)

// loopWords are the words of the kinds of loops.
var loopWords = [api.Loops]string{"for", "unrolled", "vector", "tasks", "grid", "lane"}

// indent returns the spaces in front of a line in so many statements.
func indent(depth int) string {
	return strings.Repeat("  ", depth)
}

// joined returns words with one space between them.
func joined(words ...string) string {
	return strings.Join(words, " ")
}

// kindName returns the word of a kind that there is.
func kindName(kind int) string {
	name, _ := num.Name(kind)
	return name
}

func bufferLine(b api.Buffer) string {
	ranges := list.Map(b.Box, func(r api.Range) string { return strconv.Itoa(r.Min) + ":" + strconv.Itoa(r.Extent) })
	return joined(bufferWord, b.Name, kindName(b.Kind), strings.Join(ranges, between))
}

func paramLine(x api.Param) string {
	return joined(paramWord, x.Name, kindName(x.Kind), strconv.FormatInt(x.Low, 10), strconv.FormatInt(x.High, 10))
}

// The following ones write what is in the lines of statements in front of their kids, if they may have some.

func (s placed) block(string) string { return blockWord }

func (s placed) loop(exprs string) string {
	return joined(loopWords[s.Loop], s.Name) + separator + exprs
}

func (s placed) alloc(exprs string) string {
	return joined(allocWord, s.Name, kindName(s.Kind), exprs)
}

func (s placed) store(exprs string) string     { return joined(storeWord, s.Name) + separator + exprs }
func (s placed) condition(exprs string) string { return joined(ifWord, exprs) }
func (s placed) let(exprs string) string       { return joined(letWord, s.Name) + separator + exprs }
func (s placed) assertion(exprs string) string { return joined(assertWord, s.Name, exprs) }
func (s placed) mark(string) string            { return joined(markWord, s.Name) }

func (s placed) transfer(string) string {
	sides := [...]string{toHost, toDevice}
	return joined(copyWord, s.Name) + sides[s.Loop]
}

// opens reports whether a form's statements have lines for kids.
func (f form) opens() bool {
	return f.kids != ends{}
}

// line returns the line of a statement without its indentation.
func (f form) line(s placed, exprs []string) string {
	line := f.write(s, strings.Join(exprs, separator))
	if f.opens() {
		line += opening
	}
	return line
}

// printer writes a right program into its text.
type printer struct {
	api.Program
	strings.Builder
	forms [api.Stmts]form
	decls []lang.Decl // of the parameters, and of the buffers that are known
	err   api.Errno   // the first one of an expression
}

// Print returns the text of a program.
func Print(p api.Program) (string, api.Errno) {
	if _, err := Check(p); err != api.OK {
		return "", err
	}
	x := printer{Program: p, forms: forms()}
	for _, b := range p.Buffers {
		x.put(0, bufferLine(b))
	}
	for _, param := range p.Params {
		x.put(0, paramLine(param))
	}
	x.decls = declsOf(p)
	x.statement(0, len(p.Stmts)-1)
	if err := list.FirstError(x.err, list.ErrorIf(x.Len() > api.MaxText, api.ErrLong)); err != api.OK {
		return "", err
	}
	return x.String(), api.OK
}

// declsOf returns the declarations of what a program is given: those of the parameters come first.
func declsOf(p api.Program) []lang.Decl {
	params := list.Map(p.Params, func(x api.Param) lang.Decl { return lang.Decl{Op: api.EParam, Name: x.Name, Kind: x.Kind} })
	return append(params, list.Map(p.Buffers, func(b api.Buffer) lang.Decl { return declOf(b.Name, b.Kind) })...)
}

func declOf(buffer string, kind int) lang.Decl {
	return lang.Decl{Op: api.ELoad, Name: buffer, Kind: kind}
}

// put writes a line in so many statements.
func (x *printer) put(depth int, line string) {
	x.WriteString(indent(depth) + line + "\n")
}

// expression returns the text of an expression.
func (x *printer) expression(e api.Expr) string {
	s, err := lang.Print(e, x.decls)
	x.err = list.FirstError(x.err, err)
	return s
}

// statement writes a statement in so many other ones.
func (x *printer) statement(depth, at int) {
	s := placed{x.Stmts[at], at}
	f := x.forms[s.Op]
	x.put(depth, f.line(s, list.Map(s.Exprs, x.expression)))
	if !f.opens() {
		return
	}
	outer := x.decls
	if s.Op == api.SAlloc {
		x.decls = append(x.decls, declOf(s.Name, s.Kind))
	}
	for i, kid := range s.Kids {
		if s.Op == api.SIf && i > 0 {
			x.put(depth, otherwise)
		}
		x.statement(depth+1, kid)
	}
	x.decls = outer
	x.put(depth, closing)
}
