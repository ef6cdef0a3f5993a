package lang

import (
	"slices"
	"strconv"
	"strings"

	"halation/api"
)

const between = ", "

// printer writes right expressions into its text.
type printer struct {
	strings.Builder
	nodes    api.Expr
	decls    []Decl
	reserved map[string]phrase
}

// printed returns the text of right expressions.
func printed(exprs []api.Expr, l []Decl) (string, api.Errno) {
	p := printer{decls: l, reserved: dictionary()}
	for i, e := range exprs {
		if i > 0 {
			p.WriteString(between)
		}
		p.nodes = e
		p.write(len(e) - 1)
	}
	if p.Len() > MaxLine {
		return "", api.ErrLong
	}
	return p.String(), api.OK
}

// levelOf returns the level of a node, and its sign, if it has one.
func levelOf(n api.Node) (string, int) {
	sign, level, err := Sign(n.Op)
	if err != api.OK {
		return "", highest
	}
	return sign, level
}

// write writes the expression of a node.
func (p *printer) write(at int) {
	n := p.nodes[at]
	sign, level := levelOf(n)
	switch {
	case level < highest:
		p.operand(n.Kids[0], max(level, 1)) // signs of the level 0 do not follow one another
		p.join(" ", sign, " ")
		p.operand(n.Kids[1], level+1)
	case n.Op == api.ENot:
		p.join("!")
		p.operand(n.Kids[0], highest)
	case n.Op == api.EConst:
		literal, _ := Literal(api.Value{Kind: n.Kind, Bits: n.Bits}) // its value is right
		p.join(literal)
	case n.Op == api.EVar:
		p.variable(n.Name)
	case n.Op == api.EParam:
		p.join("@", n.Name, p.suffix(n))
	case isNamed(n.Op):
		i := slices.IndexFunc(brackets[:], func(b bracket) bool { return b.op == n.Op })
		p.join(n.Name, p.suffix(n), brackets[i].left)
		p.kids(n)
		p.join(brackets[i].right)
	default:
		p.join(phraseOf(n).word(), "(")
		p.kids(n)
		p.join(")")
	}
}

// join writes parts one after the other.
func (p *printer) join(parts ...string) {
	for _, part := range parts {
		p.WriteString(part)
	}
}

// operand writes an expression, in parentheses if its level is not high enough.
func (p *printer) operand(at, least int) {
	if _, level := levelOf(p.nodes[at]); level >= least {
		p.write(at)
		return
	}
	p.join("(")
	p.write(at)
	p.join(")")
}

func (p *printer) isReserved(name string) bool {
	_, ok := p.reserved[name]
	return ok
}

func (p *printer) variable(name string) {
	if p.isReserved(name) {
		p.join("$")
	}
	p.join(name)
}

// suffix returns the suffix that a name needs: without one a reserved word before a bracket would be no call.
func (p *printer) suffix(n api.Node) string {
	if slices.Contains(p.decls, Decl{n.Op, n.Name, n.Kind}) && !(n.Op == api.ECall && p.isReserved(n.Name)) {
		return ""
	}
	return "." + kindName(n.Kind)
}

// kids writes the expressions and the numbers that stand in brackets.
func (p *printer) kids(n api.Node) {
	for i, kid := range n.Kids {
		if i > 0 {
			p.join(between)
		}
		p.write(kid)
	}
	for _, count := range countsOf(n) {
		p.join(between, strconv.Itoa(count))
	}
}

// phraseOf returns what the reserved word of a node stands for.
func phraseOf(n api.Node) phrase {
	switch n.Op {
	case api.ECast, api.ESat:
		return phrase{n.Op, n.Kind}
	case api.EReduce:
		return phrase{n.Op, int(n.Bits)}
	}
	return phrase{op: n.Op}
}

// countsOf returns the numbers behind the expressions of a node.
func countsOf(n api.Node) []int {
	if n.Op == api.EShuffle {
		return n.Picks
	}
	if formOf(n.Op).counts > 0 {
		return []int{n.Lanes}
	}
	return nil
}
