package lang_test

import (
	"math/rand"
	"slices"
	"strconv"
	"strings"
	"testing"

	"halation/api"
	"halation/expr"
	"halation/lang"
	"halation/num"
)

// tree is an expression without places; the kinds and lanes of nodes that follow from their kids are put in by nodes.
type tree struct {
	node api.Node
	kids []tree
}

// nodes returns the nodes of a tree in post-order behind others, with the kinds and lanes that follow from chapter 2.
func (t tree) nodes(before api.Expr) api.Expr {
	n := t.node
	var kids api.Expr
	for _, kid := range t.kids {
		before = kid.nodes(before)
		n.Kids = append(n.Kids, len(before)-1)
		kids = append(kids, before[len(before)-1])
	}
	switch {
	case n.Op >= api.EAdd && n.Op <= api.ENot:
		n.Kind, _ = expr.Result(n.Op, kids[0].Kind)
		n.Lanes = kids[0].Lanes
	case n.Op == api.ESelect:
		n.Kind, n.Lanes = kids[1].Kind, kids[0].Lanes
	case n.Op == api.ECall, n.Op == api.EImage, n.Op == api.ELoad, n.Op == api.ECast, n.Op == api.ESat:
		n.Lanes = kids[0].Lanes
	case n.Op == api.ERamp:
		n.Kind = api.I32
	case n.Op == api.EBroadcast:
		n.Kind = kids[0].Kind
	case n.Op == api.EShuffle:
		n.Kind, n.Lanes = kids[0].Kind, len(n.Picks)
	case n.Op == api.EReduce:
		n.Kind, n.Lanes = kids[0].Kind, 1
	default:
		n.Lanes = 1
	}
	return append(before, n)
}

func treeOf(e api.Expr, at int) tree {
	out := tree{node: e[at]}
	out.node.Kids = nil
	for _, kid := range e[at].Kids {
		out.kids = append(out.kids, treeOf(e, kid))
	}
	return out
}

const madeTrees = 3000

// maker makes trees, of which some have kinds or lanes that do not fit.
type maker struct {
	*rand.Rand
	wrong int // one of so many parts does not fit; 0: none
}

func (m maker) oneOf(l ...string) string { return l[m.Intn(len(l))] }

func (m maker) name() string {
	return m.oneOf("x", "y", "f", "in", "_", "a_9", "min", "u8", "sat_i16", "c64", "true", "reduce_add", "select", "gain", strings.Repeat("n", api.MaxName))
}

func (m maker) kind(wanted int) int {
	if m.wrong > 0 && m.Intn(m.wrong) == 0 {
		return m.Intn(api.Kinds)
	}
	return wanted
}

func (m maker) leaf(kind int) tree {
	switch choice := m.Intn(4); {
	case choice < 2 && kind == api.I32:
		return tree{node: api.Node{Op: api.EVar, Kind: kind, Name: m.name()}}
	case choice == 2:
		return tree{node: api.Node{Op: api.EParam, Kind: kind, Name: m.name()}}
	}
	v, _ := num.Cast(kind, value(api.I16, uint64(uint16(m.Intn(12)-6))))
	if num.IsInt(kind) && m.Intn(3) == 0 {
		v, _ = num.Wrap(kind, int64(m.Uint64()))
	}
	return tree{node: api.Node{Op: api.EConst, Kind: kind, Bits: v.Bits}}
}

func (m maker) tree(kind, lanes, depth int) tree {
	kind = m.kind(kind)
	if m.wrong > 0 && m.Intn(m.wrong) == 0 {
		lanes = m.Intn(4)
	}
	switch {
	case lanes > 1 && (depth <= 0 || m.Intn(3) == 0):
		return m.spread(kind, lanes, depth-1)
	case depth <= 0:
		return m.leaf(kind)
	}
	switch m.Intn(8) {
	case 0, 1:
		return m.cast(kind, lanes, depth-1)
	case 2:
		return tree{api.Node{Op: api.ESelect}, []tree{m.tree(api.Bool, lanes, depth-1), m.tree(kind, lanes, depth-1), m.tree(kind, lanes, depth-1)}}
	case 3:
		return m.picked(kind, lanes, depth-1)
	case 4:
		return m.call(kind, lanes, depth-1)
	case 5:
		if kind < api.F32 {
			return tree{api.Node{Op: api.ENot}, []tree{m.tree(kind, lanes, depth-1)}}
		}
	}
	return m.binary(kind, lanes, depth-1)
}

func (m maker) binary(kind, lanes, depth int) tree {
	for {
		op, from := api.EAdd+m.Intn(api.ELe-api.EAdd+1), m.Intn(api.Kinds)
		if op < api.EDist {
			from = kind
		}
		if to, err := num.Result(op, from); err == api.OK && to == kind {
			return tree{api.Node{Op: op}, []tree{m.tree(from, lanes, depth), m.tree(from, lanes, depth)}}
		}
	}
}

func (m maker) cast(kind, lanes, depth int) tree {
	from := m.Intn(api.C64)
	if kind == api.C64 && m.Intn(2) == 0 {
		from = api.C64
	}
	op := api.ECast
	if num.IsInt(kind) && (num.IsInt(from) || from == api.F32) && m.Intn(2) == 0 {
		op = api.ESat
	}
	return tree{api.Node{Op: op, Kind: kind}, []tree{m.tree(from, lanes, depth)}}
}

func (m maker) spread(kind, lanes, depth int) tree {
	if kind == api.I32 && m.Intn(2) == 0 {
		return tree{api.Node{Op: api.ERamp, Lanes: lanes}, []tree{m.tree(kind, 1, depth), m.tree(kind, 1, depth)}}
	}
	return tree{api.Node{Op: api.EBroadcast, Lanes: lanes}, []tree{m.tree(kind, 1, depth)}}
}

func (m maker) picked(kind, lanes, depth int) tree {
	from := 1 + m.Intn(5)
	shuffled := tree{api.Node{Op: api.EShuffle}, []tree{m.tree(kind, from, depth)}}
	op := []int{api.EAdd, api.EMin, api.EMax, api.EAnd, api.EOr, api.EXor}[m.Intn(6)]
	if _, err := num.Result(op, kind); lanes > 1 || err != api.OK {
		for range max(1, lanes) {
			shuffled.node.Picks = append(shuffled.node.Picks, m.Intn(from))
		}
		return shuffled
	}
	shuffled.node.Picks = []int{0, from - 1, m.Intn(from)}
	return tree{api.Node{Op: api.EReduce, Bits: uint64(op)}, []tree{shuffled}}
}

func (m maker) call(kind, lanes, depth int) tree {
	out := tree{node: api.Node{Op: api.ECall + m.Intn(3), Kind: kind, Name: m.name()}}
	coordinates := 1 + m.Intn(api.MaxDims)
	if m.wrong > 0 && m.Intn(m.wrong) == 0 {
		coordinates = api.MaxDims + 1
	}
	if out.node.Op == api.ELoad {
		coordinates = 1
	}
	for range coordinates {
		out.kids = append(out.kids, m.tree(api.I32, lanes, depth))
	}
	return out
}

// makeTree makes a right tree, or, if wrong is not 0, one that need not be right.
func makeTree(seed int64, wrong int) tree {
	m := maker{rand.New(rand.NewSource(seed)), wrong}
	for {
		out := m.tree(m.Intn(api.Kinds), []int{1, 1, 1, 2, 3, 32}[m.Intn(6)], 1+m.Intn(5))
		if wrong > 0 || len(out.nodes(nil)) <= api.MaxNodes {
			return out
		}
	}
}

// makeDecls makes declarations, of which some are of names that are used.
func makeDecls(seed int64) []lang.Decl {
	m := maker{Rand: rand.New(rand.NewSource(seed))}
	var out []lang.Decl
	for range m.Intn(30) {
		d := lang.Decl{Op: []int{api.EParam, api.ECall, api.EImage, api.ELoad}[m.Intn(4)], Name: m.name(), Kind: m.Intn(api.Kinds)}
		if !slices.ContainsFunc(out, func(other lang.Decl) bool { return other.Op == d.Op && other.Name == d.Name }) {
			out = append(out, d)
		}
	}
	return out
}

// text returns the text of a tree as the document says it; parentheses are put by is.
func (t tree) text(decls []lang.Decl, is style) string {
	n := t.node
	parts := make([]string, len(t.kids))
	s, isSigned := signOf[n.Op]
	for i, kid := range t.kids {
		parts[i] = kid.text(decls, is)
		level, least := kid.level(), 0
		switch {
		case isSigned && i == 1, isSigned && s.level == 0:
			least = s.level + 1
		case isSigned:
			least = s.level
		case n.Op == api.ENot:
			least = 7
		}
		if level < least || is.more() {
			parts[i] = "(" + is.space() + parts[i] + is.space() + ")"
		}
	}
	switch {
	case isSigned:
		return parts[0] + is.around() + s.sign + is.around() + parts[1]
	case n.Op == api.ENot:
		return "!" + is.space() + parts[0]
	case n.Op == api.EConst:
		v, _ := num.Text(value(n.Kind, n.Bits))
		return strings.TrimSuffix(v, "i32")
	case n.Op == api.EVar && (slices.Contains(reservedWords(), n.Name) || is.more()):
		return "$" + n.Name
	case n.Op == api.EVar:
		return n.Name
	case n.Op == api.EParam:
		return "@" + n.Name + suffix(n, decls, is)
	}
	word, open, closing := "", "(", ")"
	switch n.Op {
	case api.ECall:
		word = n.Name + suffix(n, decls, is)
	case api.EImage:
		word, open, closing = n.Name+suffix(n, decls, is), "[", "]"
	case api.ELoad:
		word, open, closing = n.Name+suffix(n, decls, is), "{", "}"
	default:
		word, parts = t.word(parts)
	}
	return word + is.space() + open + is.space() + strings.Join(parts, is.space()+","+is.after()) + is.space() + closing
}

// suffix returns the suffix of a name: the printed text has it only where it is needed.
func suffix(n api.Node, decls []lang.Decl, is style) string {
	declared := slices.Contains(decls, lang.Decl{Op: n.Op, Name: n.Name, Kind: n.Kind})
	if declared && !(n.Op == api.ECall && slices.Contains(reservedWords(), n.Name)) && !is.more() {
		return ""
	}
	return "." + kindNames[n.Kind]
}

// word returns the reserved word of a tree, and its expressions with the numbers behind them.
func (t tree) word(parts []string) (string, []string) {
	n := t.node
	switch n.Op {
	case api.ECast:
		return kindNames[n.Kind], parts
	case api.ESat:
		return "sat_" + kindNames[n.Kind], parts
	case api.ESelect:
		return "select", parts
	case api.ERamp:
		return "ramp", append(parts, strconv.Itoa(n.Lanes))
	case api.EBroadcast:
		return "broadcast", append(parts, strconv.Itoa(n.Lanes))
	case api.EShuffle:
		for _, pick := range n.Picks {
			parts = append(parts, strconv.Itoa(pick))
		}
		return "shuffle", parts
	}
	for word, op := range callWords {
		if op == n.Op {
			return word, parts
		}
	}
	for word, op := range reduceWords {
		if n.Op == api.EReduce && uint64(op) == n.Bits {
			return word, parts
		}
	}
	panic("a node without a word")
}

func (t tree) level() int {
	if s, ok := signOf[t.node.Op]; ok {
		return s.level
	}
	return 7
}

// style is how a text differs from the printed one: by spaces, parentheses, suffixes and $ that need not be there.
type style struct{ *rand.Rand }

func (s style) more() bool { return s.Rand != nil && s.Intn(5) == 0 }

func (s style) space() string {
	if s.Rand == nil {
		return ""
	}
	return strings.Repeat(" ", s.Intn(2))
}

func (s style) around() string {
	if s.Rand == nil {
		return " "
	}
	return strings.Repeat(" ", 1+s.Intn(2)) // so that a - in front of a number stays what it is
}

func (s style) after() string {
	if s.Rand == nil {
		return " "
	}
	return s.space()
}

// TestMaker keeps the made expressions as various as the other tests need them.
func TestMaker(t *testing.T) {
	var seen [api.Ops]int
	for seed := range int64(madeTrees) {
		e := makeTree(seed, 0).nodes(nil)
		if err := expr.Check(e); err != api.OK {
			t.Fatal("a made expression is not right", seed, err, e)
		}
		for _, n := range e {
			seen[n.Op]++
		}
	}
	for op, n := range seen {
		if n < 10 {
			t.Error("an Op is rare", op, n)
		}
	}
}
