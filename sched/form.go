package sched

import (
	"halation/api"
)

// form is what the directives with an Op have: their word; whether they are about loops, those of a stage; how many
// variables, and which numbers in their other fields (0 alone, if they do not have them); and how their fields, of
// which so many are no variables, stand in the line.
type form struct {
	word   string
	loops  bool
	vars   span
	factor span
	tail   span
	low    span
	at     bool
	others int
	write  func(d api.Directive) []string
	read   func(d *api.Directive, vars int, next func() string) bool
}

// formOf returns the form of an Op that there is.
func formOf(op int) form {
	table := [api.Directives]form{
		api.Split:       {word: "split", loops: true, vars: span{3, 3}, factor: span{1, api.MaxFactor}, tail: span{0, api.Tails - 1}, others: 2, write: writeSplit, read: readSplit},
		api.Fuse:        {word: "fuse", loops: true, vars: span{3, 3}, write: writeVars, read: readVars},
		api.Reorder:     {word: "reorder", loops: true, vars: span{2, api.MaxDepth}, write: writeVars, read: readVars},
		api.Rename:      {word: "rename", loops: true, vars: span{2, 2}, write: writeVars, read: readVars},
		api.Unroll:      {word: "unroll", loops: true, vars: span{1, 1}, write: writeVars, read: readVars},
		api.Vectorize:   {word: "vectorize", loops: true, vars: span{1, 1}, write: writeVars, read: readVars},
		api.Parallel:    {word: "parallel", loops: true, vars: span{1, 1}, write: writeVars, read: readVars},
		api.Blocks:      {word: "blocks", loops: true, vars: span{1, 1}, write: writeVars, read: readVars},
		api.Threads:     {word: "threads", loops: true, vars: span{1, 1}, write: writeVars, read: readVars},
		api.ComputeRoot: {word: "compute_root", write: writeVars, read: readVars},
		api.ComputeAt:   {word: "compute_at", vars: span{1, 1}, at: true, others: 1, write: writeAt, read: readAt},
		api.StoreRoot:   {word: "store_root", write: writeVars, read: readVars},
		api.StoreAt:     {word: "store_at", vars: span{1, 1}, at: true, others: 1, write: writeAt, read: readAt},
		api.Fold:        {word: "fold", vars: span{1, 1}, factor: span{1, api.MaxFactor}, others: 1, write: writeFold, read: readFold},
		api.Bound:       {word: "bound", vars: span{1, 1}, factor: span{1, api.MaxExtent}, low: span{-api.MaxCoord, api.MaxCoord}, others: 2, write: writeBound, read: readBound},
		api.Memoize:     {word: "memoize", write: writeVars, read: readVars},
	}
	return table[op]
}

// isOp reports whether there is such an Op.
func isOp(op int) bool {
	return op >= 0 && op < api.Directives
}

// Word returns the word of a directive's Op.
func Word(op int) (string, api.Errno) {
	if !isOp(op) {
		return "", api.ErrUnknown
	}
	return formOf(op).word, api.OK
}

// Op returns the Op with a word.
func Op(s string) (int, api.Errno) {
	ops := map[string]int{}
	for op := range api.Directives {
		ops[formOf(op).word] = op
	}
	op, ok := ops[s]
	if !ok {
		return 0, api.ErrUnknown
	}
	return op, api.OK
}

// tailWords has the words of the tails.
var tailWords = [api.Tails]string{api.RoundUp: "round_up", api.Guard: "guard", api.ShiftInward: "shift", api.Exact: "exact"}

// TailWord returns the word of a tail.
func TailWord(tail int) (string, api.Errno) {
	if tail < 0 || tail >= api.Tails {
		return "", api.ErrUnknown
	}
	return tailWords[tail], api.OK
}
