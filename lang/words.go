package lang

import (
	"halation/api"
	"halation/expr"
	"halation/num"
)

const satPrefix = "sat_"

// phrase is what a reserved word stands for: an Op, and the kind of a cast, the bits of a constant, or the Op that combines in a reduction.
type phrase struct {
	op     int
	detail int
}

// worded is a reserved word with what it stands for.
type worded struct {
	word string
	phrase
}

// wordTable has the reserved words but for the kinds.
var wordTable = [...]worded{
	{"true", phrase{api.EConst, 1}},
	{"false", phrase{api.EConst, 0}},
	{"min", phrase{op: api.EMin}},
	{"max", phrase{op: api.EMax}},
	{"sat_add", phrase{op: api.ESatAdd}},
	{"sat_sub", phrase{op: api.ESatSub}},
	{"avg", phrase{op: api.EAvg}},
	{"dist", phrase{op: api.EDist}},
	{"select", phrase{op: api.ESelect}},
	{"ramp", phrase{op: api.ERamp}},
	{"broadcast", phrase{op: api.EBroadcast}},
	{"shuffle", phrase{op: api.EShuffle}},
	{"reduce_add", phrase{api.EReduce, api.EAdd}},
	{"reduce_min", phrase{api.EReduce, api.EMin}},
	{"reduce_max", phrase{api.EReduce, api.EMax}},
	{"reduce_and", phrase{api.EReduce, api.EAnd}},
	{"reduce_or", phrase{api.EReduce, api.EOr}},
	{"reduce_xor", phrase{api.EReduce, api.EXor}},
}

// dictionary returns what the reserved words stand for.
func dictionary() map[string]phrase {
	words := make(map[string]phrase, len(wordTable)+2*api.Kinds)
	for _, w := range wordTable {
		words[w.word] = w.phrase
	}
	for kind := range api.Kinds {
		for _, op := range []int{api.ECast, api.ESat} {
			p := phrase{op, kind}
			words[p.word()] = p
		}
	}
	return words
}

// word returns the reserved word that stands for something, if there is one.
func (p phrase) word() string {
	switch p.op {
	case api.ECast:
		return kindName(p.detail)
	case api.ESat:
		return satPrefix + kindName(p.detail)
	}
	for _, w := range wordTable {
		if w.phrase == p {
			return w.word
		}
	}
	return ""
}

// kindName returns the name of a kind that there is.
func kindName(kind int) string {
	name, _ := num.Name(kind)
	return name
}

// Reserved reports whether a word has a meaning of its own.
func Reserved(s string) bool {
	_, ok := dictionary()[s]
	return ok
}

// form is what is read behind a reserved word: expressions, then numbers; and what is built of them.
type form struct {
	exprs  int
	counts int  // how many numbers there are at least
	more   bool // there may be more of them
	fill   func(p phrase, kids []api.Node, counts []int) api.Node
}

// formOf returns the form of an Op, also of those that are written with signs or names. What is built for kids that do
// not fit is found wrong by expr.Check.
func formOf(op int) form {
	if op >= api.EAdd && op <= api.ELe { // the operations with two operands have one form
		op = api.EAdd
	}
	table := [api.Ops]form{
		api.ECall:      {fill: given},
		api.EImage:     {fill: given},
		api.ELoad:      {fill: given},
		api.EAdd:       {exprs: 2, fill: operation},
		api.ENot:       {fill: operation},
		api.ECast:      {exprs: 1, fill: given},
		api.ESat:       {exprs: 1, fill: given},
		api.ESelect:    {exprs: 3, fill: selection},
		api.ERamp:      {exprs: 2, counts: 1, fill: ramp},
		api.EBroadcast: {exprs: 1, counts: 1, fill: broadcast},
		api.EShuffle:   {exprs: 1, counts: 1, more: true, fill: shuffle},
		api.EReduce:    {exprs: 1, fill: reduction},
	}
	return table[op]
}

// given returns a node whose kind is known.
func given(p phrase, kids []api.Node, _ []int) api.Node {
	return api.Node{Op: p.op, Kind: p.detail, Lanes: kids[0].Lanes}
}

func operation(p phrase, kids []api.Node, _ []int) api.Node {
	kind, _ := expr.Result(p.op, kids[0].Kind)
	return api.Node{Op: p.op, Kind: kind, Lanes: kids[0].Lanes}
}

func selection(p phrase, kids []api.Node, _ []int) api.Node {
	return api.Node{Op: p.op, Kind: kids[1].Kind, Lanes: kids[0].Lanes}
}

func ramp(p phrase, _ []api.Node, counts []int) api.Node {
	return api.Node{Op: p.op, Kind: api.I32, Lanes: counts[0]}
}

func broadcast(p phrase, kids []api.Node, counts []int) api.Node {
	return api.Node{Op: p.op, Kind: kids[0].Kind, Lanes: counts[0]}
}

func shuffle(p phrase, kids []api.Node, counts []int) api.Node {
	return api.Node{Op: p.op, Kind: kids[0].Kind, Lanes: len(counts), Picks: counts}
}

func reduction(p phrase, kids []api.Node, _ []int) api.Node {
	return api.Node{Op: p.op, Kind: kids[0].Kind, Lanes: 1, Bits: uint64(p.detail)}
}
