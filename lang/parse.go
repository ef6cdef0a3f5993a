package lang

import (
	"strconv"

	"halation/api"
	"halation/list"
)

// reader is the tokens of a text, of which those before at have been read, and the first error.
type reader struct {
	tokens []Token
	at     int
	size   int // how many bytes the text has
	place  int
	err    api.Errno
}

// peek returns the token that is read next.
func (r *reader) peek() Token {
	if r.at == len(r.tokens) {
		return Token{Kind: nothing, At: r.size}
	}
	return r.tokens[r.at]
}

// take reads a token.
func (r *reader) take() Token {
	t := r.peek()
	if !t.isEnd() {
		r.at++
	}
	return t
}

// fail keeps an error. It returns false, as all methods do that have read something wrong.
func (r *reader) fail(place int, err api.Errno) bool {
	r.place, r.err = place, err
	return false
}

// want reads a token that can stand here.
func (r *reader) want(can func(Token) bool) bool {
	if t := r.peek(); !can(t) {
		return r.fail(t.At, api.ErrSyntax)
	}
	r.take()
	return true
}

// sign reads a sign that must stand here.
func (r *reader) sign(sign string) bool {
	return r.want(func(t Token) bool { return t.is(sign) })
}

// end reports whether all has been read.
func (r *reader) end() bool {
	return r.want(Token.isEnd)
}

// count reads the number of lanes, or of one of them.
func (r *reader) count() (int, bool) {
	t := r.peek()
	if !r.want(Token.isCount) {
		return 0, false
	}
	n, _ := strconv.Atoi(t.Text) // so few digits are always an int
	return n, true
}

// parser is a reader that builds the nodes of an expression.
type parser struct {
	reader
	decls []Decl
	words map[string]phrase
	nodes api.Expr
	roots []int // the nodes that are not kids yet
}

func parserOf(s string, l []Decl) (*parser, int, api.Errno) {
	if err := CheckDecls(l); err != api.OK {
		return nil, 0, err
	}
	tokens, place, err := Tokens(s)
	if err != api.OK {
		return nil, place, err
	}
	return &parser{reader: reader{tokens: tokens, size: len(s)}, decls: l, words: dictionary()}, 0, api.OK
}

// cut returns the expression that has been read, and begins a new one.
func (p *parser) cut() api.Expr {
	e := p.nodes
	p.nodes, p.roots = nil, nil
	return e
}

// listed reads a list up to the end of the text.
func (p *parser) listed() ([]api.Expr, bool) {
	var out []api.Expr
	for !p.peek().isEnd() || len(out) > 0 {
		if !p.expression(0) {
			return nil, false
		}
		out = append(out, p.cut())
		if !p.peek().is(",") {
			return out, p.end()
		}
		p.take()
	}
	return out, true
}

// leaf adds a node without kids.
func (p *parser) leaf(n api.Node) bool {
	n.Lanes = 1
	p.nodes = append(p.nodes, n)
	p.roots = append(p.roots, len(p.nodes)-1)
	return true
}

// branch adds a node above the last expressions.
func (p *parser) branch(what phrase, name string, exprs int, counts []int) bool {
	start := len(p.roots) - exprs
	kids := make([]int, exprs)
	copy(kids, p.roots[start:])
	n := formOf(what.op).fill(what, list.Map(kids, func(kid int) api.Node { return p.nodes[kid] }), counts)
	n.Name, n.Kids = name, kids
	p.nodes = append(p.nodes, n)
	p.roots = append(p.roots[:start], len(p.nodes)-1)
	return true
}

// expression reads an expression whose operators have at least a level.
func (p *parser) expression(least int) bool {
	if !p.operand() {
		return false
	}
reading:
	for {
		next := p.peek()
		op, level := operator(next.Text)
		if next.Kind != ASign || level < least {
			break reading
		}
		p.take()
		if !p.expression(level + 1) {
			return false
		}
		p.branch(phrase{op: op}, "", 2, nil)
		if level == 0 { // such signs do not follow one another
			break reading
		}
	}
	return true
}

// operand reads an expression of the highest level.
func (p *parser) operand() bool {
	t := p.take()
	if t.isWord() && len(t.Text) > api.MaxName { // reserved words are shorter, so it is a name
		return p.fail(t.At, api.ErrName)
	}
	switch {
	case t.Kind == ANumber:
		return p.literal(t)
	case t.Kind == AWord:
		return p.word(t)
	case t.Kind == AParam:
		return p.param(t)
	case t.Kind == AVar:
		return p.leaf(api.Node{Op: api.EVar, Kind: api.I32, Name: t.Text})
	case t.is("!"):
		return p.operand() && p.branch(phrase{op: api.ENot}, "", 1, nil)
	case t.is("("):
		return p.expression(0) && p.sign(")")
	}
	return p.fail(t.At, api.ErrSyntax)
}

func (p *parser) literal(t Token) bool {
	v, err := ParseLiteral(t.Text)
	if err != api.OK {
		return p.fail(t.At, err)
	}
	return p.leaf(api.Node{Op: api.EConst, Kind: v.Kind, Bits: v.Bits})
}

func (p *parser) param(t Token) bool {
	kind, err := p.kindOf(api.EParam, t)
	if err != api.OK {
		return p.fail(t.At, err)
	}
	return p.leaf(api.Node{Op: api.EParam, Kind: kind, Name: t.Text})
}

// kindOf returns the kind that the suffix of a name says, or, without one, its declaration.
func (p *parser) kindOf(op int, t Token) (int, api.Errno) {
	if t.Suffix == "" {
		kind, ok := declared(p.decls, op, t.Text)
		return kind, list.ErrorIf(!ok, api.ErrUnknown)
	}
	what, ok := p.words[t.Suffix]
	return what.detail, list.ErrorIf(!ok || what.op != api.ECast, api.ErrUnknown)
}

// word reads what begins with a word: what stands behind it says what it is.
func (p *parser) word(t Token) bool {
	what, reserved := p.words[t.Text]
	reserved = reserved && t.Suffix == ""
	next := p.peek()
	b, isBracket := bracketOf(next)
	switch {
	case reserved && what.op == api.EConst && (!isBracket || b.op == api.ECall):
		return p.leaf(api.Node{Op: api.EConst, Kind: api.Bool, Bits: uint64(what.detail)})
	case reserved && isBracket && b.op == api.ECall:
		p.take()
		return p.phrase(what)
	case isBracket:
		p.take()
		return p.named(t, b)
	case reserved || t.Suffix != "":
		return p.fail(next.At, api.ErrSyntax)
	}
	return p.leaf(api.Node{Op: api.EVar, Kind: api.I32, Name: t.Text})
}

// phrase reads what stands behind a reserved word and its bracket.
func (p *parser) phrase(what phrase) bool {
	f := formOf(what.op)
	for i := range f.exprs {
		if i > 0 && !p.sign(",") || !p.expression(0) {
			return false
		}
	}
	var counts []int
	for len(counts) < f.counts || f.more && p.peek().is(",") {
		if !p.sign(",") {
			return false
		}
		n, ok := p.count()
		if !ok {
			return false
		}
		counts = append(counts, n)
	}
	return p.sign(")") && p.branch(what, "", f.exprs, counts)
}

// named reads what stands behind a name and its bracket.
func (p *parser) named(t Token, b bracket) bool {
	kind, err := p.kindOf(b.op, t)
	if err != api.OK {
		return p.fail(t.At, err)
	}
	exprs := 1
	for p.expression(0) {
		if b.op == api.ELoad || !p.peek().is(",") {
			return p.sign(b.right) && p.branch(phrase{b.op, kind}, t.Text, exprs, nil)
		}
		p.take()
		exprs++
	}
	return false
}

// bracket is what the coordinates of an Op stand in.
type bracket struct {
	op          int
	left, right string
}

var brackets = [...]bracket{{api.ECall, "(", ")"}, {api.EImage, "[", "]"}, {api.ELoad, "{", "}"}}

// bracketOf returns the bracket that a token opens, if it is one.
func bracketOf(t Token) (bracket, bool) {
	for _, b := range brackets {
		if t.is(b.left) {
			return b, true
		}
	}
	return bracket{}, false
}
