package loop

import (
	"slices"
	"strings"

	"halation/api"
	"halation/expr"
	"halation/lang"
	"halation/list"
	"halation/num"
	"halation/text"
)

// digits is how many an integer has at most.
const digits = 19

// starts returns the statements of which nothing but their first words is known, by these words.
func starts() map[string]api.Stmt {
	out := map[string]api.Stmt{
		blockWord: {Op: api.SBlock}, allocWord: {Op: api.SAlloc}, storeWord: {Op: api.SStore}, ifWord: {Op: api.SIf},
		letWord: {Op: api.SLet}, assertWord: {Op: api.SAssert}, markWord: {Op: api.SMark}, copyWord: {Op: api.SCopy},
	}
	for kind, word := range loopWords {
		out[word] = api.Stmt{Op: api.SFor, Loop: kind}
	}
	return out
}

// firstWord returns the word with which a line begins, and what stands behind the space after it.
func firstWord(line string) (word, rest string) {
	for i, r := range line {
		if r == ' ' {
			return line[:i], line[i+1:]
		}
	}
	return line, ""
}

// The following ones read what stands behind the first word of a statement, and return the texts of its expressions.
// What is too much, or not there, is found when the line is written again.

func readBlock(*api.Stmt, string) []string { return nil }

func readParts(s *api.Stmt, rest string) []string {
	parts := strings.Split(rest, separator)
	s.Name = parts[0]
	return parts[1:]
}

func readAlloc(s *api.Stmt, rest string) []string {
	name, rest := firstWord(rest)
	kind, size := firstWord(rest)
	s.Name = name
	s.Kind, _ = num.Kind(kind)
	return []string{size}
}

func readCondition(_ *api.Stmt, rest string) []string {
	return []string{rest}
}

func readAssertion(s *api.Stmt, rest string) []string {
	name, condition := firstWord(rest)
	s.Name = name
	return []string{condition}
}

func readMark(s *api.Stmt, rest string) []string {
	s.Name = rest
	return nil
}

func readTransfer(s *api.Stmt, rest string) []string {
	s.Name = strings.TrimSuffix(rest, toHost)
	if name, ok := strings.CutSuffix(rest, toDevice); ok {
		s.Name, s.Loop = name, 1
	}
	return nil
}

// open is a statement whose last line has not been read.
type open struct {
	api.Stmt
	most int // how many kids it may have by now
}

// reader reads the lines of a text.
type reader struct {
	api.Program
	forms  [api.Stmts]form
	starts map[string]api.Stmt
	lines  []string // those that have not been taken
	open   []open
	decls  []lang.Decl
	isRead bool // whether the last statement, the whole, has been read
}

// take takes a line, with its line feed.
func (r *reader) take() string {
	line := r.lines[0]
	r.lines = r.lines[1:]
	return line
}

// Parse returns the program of a text, or the index of the first line that is wrong.
func Parse(s string) (api.Program, int, api.Errno) {
	if len(s) > api.MaxText {
		return api.Program{}, 0, api.ErrLong
	}
	r := &reader{forms: forms(), starts: starts(), lines: slices.Collect(strings.Lines(s))}
	count := len(r.lines)
	r.heads()
	r.decls = declsOf(r.Program)
	wrong := false
	next := r.take
reading:
	for len(r.lines) > 0 {
		if line, isEnded := strings.CutSuffix(next(), "\n"); !isEnded || !r.statement(line) {
			wrong = true
			break reading
		}
	}
	switch {
	case wrong:
		return api.Program{}, count - len(r.lines) - 1, api.ErrSyntax
	case !r.isRead:
		return api.Program{}, count, api.ErrSyntax
	}
	if _, err := Check(r.Program); err != api.OK {
		return api.Program{}, count, err
	}
	return r.Program, 0, api.OK
}

// heads takes the lines of buffers, and those of parameters behind them, as far as they are right.
func (r *reader) heads() {
	for len(r.lines) > 0 {
		b, ok := readBuffer(r.lines[0])
		if !ok {
			break
		}
		r.Buffers = append(r.Buffers, b)
		r.take()
	}
	for len(r.lines) > 0 {
		x, ok := readParam(r.lines[0])
		if !ok {
			break
		}
		r.Params = append(r.Params, x)
		r.take()
	}
}

// readBuffer returns the buffer of a line, if it is the line of one.
func readBuffer(line string) (api.Buffer, bool) {
	words := strings.SplitN(strings.TrimSuffix(line, "\n"), " ", 4)
	if len(words) < 4 {
		return api.Buffer{}, false
	}
	out := api.Buffer{Name: words[1]}
	out.Kind, _ = num.Kind(words[2])
	for part := range strings.SplitSeq(words[3], between) {
		low, count, _ := strings.Cut(part, ":")
		first, _ := text.Integer(low, digits)
		extent, _ := text.Integer(count, digits)
		out.Box = append(out.Box, api.Range{Min: int(first), Extent: int(extent)})
	}
	return out, expr.IsName(out.Name) && bufferLine(out)+"\n" == line
}

// readParam returns the parameter of a line, if it is the line of one.
func readParam(line string) (api.Param, bool) {
	words, _ := text.Words(strings.TrimSuffix(line, "\n"))
	if len(words) != 5 {
		return api.Param{}, false
	}
	out := api.Param{Name: words[1]}
	out.Kind, _ = num.Kind(words[2])
	out.Low, _ = text.Integer(words[3], digits)
	out.High, _ = text.Integer(words[4], digits)
	return out, expr.IsName(out.Name) && paramLine(out)+"\n" == line
}

// statement reads a line of a statement, and reports whether it can stand here.
func (r *reader) statement(line string) bool {
	depth := len(r.open)
	if r.isRead {
		return false
	}
	if depth > 0 {
		top := &r.open[depth-1]
		switch f := r.forms[top.Op]; line {
		case indent(depth-1) + closing:
			return r.close(f)
		case indent(depth-1) + otherwise:
			isFirst := top.Op == api.SIf && top.most == 1 && len(top.Kids) == 1
			top.most = f.kids[1]
			return isFirst
		}
		if len(top.Kids) == top.most {
			return false
		}
	}
	content, ok := strings.CutPrefix(line, indent(depth))
	return ok && r.begin(content)
}

// begin reads the line with which a statement begins.
func (r *reader) begin(content string) bool {
	word, rest := firstWord(strings.TrimSuffix(content, opening))
	s, ok := r.starts[word]
	if !ok {
		return false
	}
	f := r.forms[s.Op]
	texts := f.read(&s, rest)
	if !f.exprs.has(len(texts)) || f.named && !expr.IsName(s.Name) {
		return false
	}
	for _, written := range texts {
		e, _, err := lang.Parse(written, r.decls)
		again, wrong := lang.Print(e, r.decls)
		if list.FirstError(err, wrong) != api.OK || again != written {
			return false
		}
		s.Exprs = append(s.Exprs, e)
	}
	if f.line(placed{Stmt: s}, texts) != content {
		return false
	}
	if !f.opens() {
		r.end(s)
		return true
	}
	if s.Op == api.SAlloc {
		r.decls = append(r.decls, declOf(s.Name, s.Kind))
	}
	most := 1
	if s.Op == api.SBlock {
		most = api.MaxText // more than there can be
	}
	r.open = append(r.open, open{s, most})
	return true
}

// close ends the innermost statement that is open, if it has its kids.
func (r *reader) close(f form) bool {
	top := r.open[len(r.open)-1]
	if len(top.Kids) < f.kids[0] || top.Op == api.SIf && len(top.Kids) < top.most {
		return false
	}
	r.open = r.open[:len(r.open)-1]
	if top.Op == api.SAlloc {
		r.decls = r.decls[:len(r.decls)-1]
	}
	r.end(top.Stmt)
	return true
}

// end puts a statement behind its kids.
func (r *reader) end(s api.Stmt) {
	r.Stmts = append(r.Stmts, s)
	if len(r.open) == 0 {
		r.isRead = true
		return
	}
	top := &r.open[len(r.open)-1]
	top.Kids = append(top.Kids, len(r.Stmts)-1)
}
