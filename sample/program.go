package sample

import (
	"slices"
	"strconv"
	"strings"

	"halation/api"
	"halation/lang"
	"halation/loop"
	"halation/num"
)

// held is a buffer that is known.
type held struct {
	name string
	kind string
	size int
}

// programming is the text of a program that is being written.
type programming struct {
	Maker
	strings.Builder
	params  []lang.Decl
	buffers []held
	vars    []string
	outer   []int // the kinds of the loops around
	made    int   // how many names there are
}

// Program returns a right program. Many of them run to their end.
func (m Maker) Program() api.Program {
	for {
		w := &programming{Maker: m}
		w.head()
		w.whole()
		if p, _, err := loop.Parse(w.String()); err == api.OK { // some expressions are too long
			return p
		}
	}
}

// kindNames are the kinds of buffers.
var kindNames = []string{"u8", "u8", "i32", "i32", "i32", "bool", "i16", "u64", "f32", "c64"}

// name returns a new name; some are words that have a meaning in expressions.
func (w *programming) name(letter string) string {
	words := [...]string{"min", "select", "u8", "true", "for", "to"}
	w.made++
	if w.Intn(8) == 0 && w.made <= len(words) {
		return words[w.made-1]
	}
	return letter + strconv.Itoa(w.made)
}

// line writes a line in so many statements.
func (w *programming) line(depth int, parts ...string) {
	w.WriteString(strings.Repeat("  ", depth) + strings.Join(parts, "") + "\n")
}

// head writes the lines of the buffers and the parameters. The last buffer is the output.
func (w *programming) head() {
	for range 1 + w.Intn(4) {
		b := held{w.name("b"), one(w.Maker, kindNames...), 1}
		var box []string
		for range 1 + w.Intn(2) {
			n := 1 + w.Intn(5)
			b.size *= n
			box = append(box, strconv.Itoa(w.Intn(6)-3)+":"+strconv.Itoa(n))
		}
		w.line(0, "buffer ", b.name, " ", b.kind, " ", strings.Join(box, ", "))
		w.buffers = append(w.buffers, b)
	}
	for range w.Intn(3) {
		kind := one(w.Maker, api.I32, api.I32, api.U8, api.Bool, api.F32)
		name := w.name("p")
		word, _ := num.Name(kind)
		w.line(0, "param ", name, " ", word, " ", one(w.Maker, "0", "1"), " 1")
		w.params = append(w.params, lang.Decl{Op: api.EParam, Name: name, Kind: kind})
	}
}

// whole writes the statement that is the whole. The output is mostly filled ahead of all others.
func (w *programming) whole() {
	if w.Intn(6) == 0 {
		w.statement(0)
		return
	}
	w.line(0, "block {")
	if w.Intn(5) > 0 {
		w.fill(1, w.buffers[len(w.buffers)-1])
	}
	for range 1 + w.Intn(3) {
		w.statement(1)
	}
	w.line(0, "}")
}

// fill writes a loop that stores all elements of a buffer.
func (w *programming) fill(depth int, b held) {
	v := w.name("v")
	w.line(depth, "for ", v, " ; 0 ; ", strconv.Itoa(b.size), " {")
	w.vars = append(w.vars, v)
	w.line(depth+1, "store ", b.name, " ; ", w.text("$"+v), " ; ", w.text(b.kind+"($"+v+" * "+strconv.Itoa(1+w.Intn(9))+" + "+w.variable()+")"))
	w.vars = w.vars[:len(w.vars)-1]
	w.line(depth, "}")
}

// text returns the text of an expression as it is printed.
func (w *programming) text(s string) string {
	decls := slices.Clone(w.params)
	for _, b := range w.buffers {
		kind, _ := num.Kind(b.kind)
		decls = append(decls, lang.Decl{Op: api.ELoad, Name: b.name, Kind: kind})
	}
	out, _, _ := lang.Format(s, decls)
	return out
}

// isIn reports whether a loop of a kind is around.
func (w *programming) isIn(kind int) bool {
	return slices.Contains(w.outer, kind)
}

// statement writes a statement in so many other ones.
func (w *programming) statement(depth int) {
	choice := w.Intn(20)
	if depth > 5 {
		choice = w.Intn(5) // one without kids
	}
	switch choice {
	case 0:
		w.line(depth, one(w.Maker, "copy "+w.buffer().name+" to host", "copy "+w.buffer().name+" to device", "assert "+w.name("a")+" "+w.condition(2)))
	case 1, 2, 3, 4, 5, 6:
		w.store(depth)
	case 7, 8:
		w.line(depth, "block {")
		for range w.Intn(4) {
			w.statement(depth + 1)
		}
		w.line(depth, "}")
	case 9, 10:
		w.line(depth, "if ", w.condition(2), " {")
		w.statement(depth + 1)
		if w.Intn(2) == 0 {
			w.line(depth, "} else {")
			w.statement(depth + 1)
		}
		w.line(depth, "}")
	case 11, 12:
		v := w.name("t")
		w.line(depth, "let ", v, " ; ", w.text(w.integer(2)), " {")
		w.inside(depth, v)
	case 13:
		w.line(depth, "mark ", one(w.Maker, w.name("m"), w.buffer().name), " {")
		w.statement(depth + 1)
		w.line(depth, "}")
	case 14:
		w.alloc(depth)
	default:
		w.loop(depth)
	}
}

// inside writes what is in a statement that declares a variable, and its end.
func (w *programming) inside(depth int, v string) {
	w.vars = append(w.vars, v)
	w.statement(depth + 1)
	w.vars = w.vars[:len(w.vars)-1]
	w.line(depth, "}")
}

// alloc writes a buffer of its own, which is mostly filled at once. Vector loops have none.
func (w *programming) alloc(depth int) {
	if w.isIn(api.Vector) {
		w.store(depth)
		return
	}
	b := held{w.name("c"), one(w.Maker, kindNames...), 1 + w.Intn(6)}
	w.line(depth, "alloc ", b.name, " ", b.kind, " ", strconv.Itoa(b.size), " {")
	w.buffers = append(w.buffers, b)
	w.line(depth+1, "block {")
	if w.Intn(5) > 0 {
		w.fill(depth+2, b)
	}
	for range 1 + w.Intn(2) {
		w.statement(depth + 2)
	}
	w.line(depth+1, "}")
	w.buffers = w.buffers[:len(w.buffers)-1]
	w.line(depth, "}")
}

// loop writes a loop of a kind that can stand here.
func (w *programming) loop(depth int) {
	words := [...]string{"for", "unrolled", "vector", "tasks", "grid", "lane"}
	kind := one(w.Maker, api.Serial, api.Serial, api.Unrolled, api.Vector, api.Vector, api.Vector, api.Tasks, api.Grid, api.Lane)
	switch {
	case w.isIn(api.Vector):
		kind = w.Intn(api.Vector)
	case kind == api.Grid && w.isIn(api.Grid), kind == api.Lane && !w.isIn(api.Grid):
		kind = api.Tasks
	}
	begin, times := strconv.Itoa(w.Intn(4)-1), strconv.Itoa(w.Intn(5))
	switch {
	case kind == api.Vector:
		times = strconv.Itoa(1 + w.Intn(4))
	case w.Intn(4) == 0:
		begin = w.text(w.integer(1))
	}
	if kind != api.Vector && kind != api.Unrolled && w.Intn(3) == 0 {
		times = w.text(w.integer(1) + " % 5")
	}
	if w.Intn(60) == 0 {
		begin = one(w.Maker, "1048576", "1048577", "-1048577", "-1048576")
	}
	v := w.name("v")
	w.line(depth, words[kind], " ", v, " ; ", begin, " ; ", times, " {")
	w.outer = append(w.outer, kind)
	w.inside(depth, v)
	w.outer = w.outer[:len(w.outer)-1]
}

// store writes a store of one lane, or of several.
func (w *programming) store(depth int) {
	b := w.buffer()
	index, value, where := w.index(b), w.value(b.kind, 2), ""
	if w.Intn(4) == 0 {
		where = " ; " + w.condition(2)
	}
	if w.Intn(4) == 0 {
		n := 2 + w.Intn(3)
		index, value, where = w.modulo(w.vector(n, 2), b.size, n), b.kind+"("+w.vector(n, 2)+")", ""
		if w.Intn(2) == 0 {
			where = " ; " + w.text(w.vector(n, 1)+one(w.Maker, " < ", " == ")+w.vector(n, 1))
		}
	}
	w.line(depth, "store ", b.name, " ; ", w.text(index), " ; ", w.text(value), where)
}

func (w *programming) buffer() held {
	return w.buffers[len(w.buffers)-1-w.Intn(min(3, len(w.buffers)))]
}

// index returns an element of a buffer, which is mostly there.
func (w *programming) index(b held) string {
	if w.Intn(30) == 0 {
		return w.integer(1)
	}
	return "(" + w.integer(1) + ") % " + strconv.Itoa(b.size)
}

// modulo returns lanes that are mostly elements of a buffer of a size.
func (w *programming) modulo(vector string, size, lanes int) string {
	if w.Intn(30) == 0 {
		return vector
	}
	return "(" + vector + ") % broadcast(" + strconv.Itoa(size) + ", " + strconv.Itoa(lanes) + ")"
}

// variable returns a variable that is known, or a number.
func (w *programming) variable() string {
	if len(w.vars) == 0 || w.Intn(5) == 0 {
		return strconv.Itoa(w.Intn(7) - 2)
	}
	return "$" + one(w.Maker, w.vars...)
}

// integer returns an expression of the kind I32.
func (w *programming) integer(depth int) string {
	if depth > 0 {
		switch w.Intn(10) {
		case 0, 1, 2:
			return "(" + w.integer(depth-1) + one(w.Maker, " + ", " - ", " * ", " / ", " % ") + w.integer(depth-1) + ")"
		case 3:
			return one(w.Maker, "min", "max", "avg", "sat_add") + "(" + w.integer(depth-1) + ", " + w.integer(depth-1) + ")"
		case 4, 5:
			return w.loaded(depth)
		case 6:
			if len(w.params) > 0 {
				return "i32(@" + one(w.Maker, w.params...).Name + ")"
			}
		case 7:
			return one(w.Maker, "reduce_add", "reduce_max", "reduce_xor") + "(" + w.vector(2+w.Intn(3), depth-1) + ")"
		case 8:
			return "select(" + w.integer(depth-1) + " < " + w.integer(depth-1) + ", " + w.integer(depth-1) + ", " + w.integer(depth-1) + ")"
		}
	}
	return w.variable()
}

// loaded returns an element of a buffer as an I32.
func (w *programming) loaded(depth int) string {
	b := w.buffer()
	if b.kind == "c64" {
		return "i32(" + b.name + "{" + w.index(b) + "} == " + b.name + "{" + w.index(b) + "})"
	}
	return "i32(" + b.name + "{" + w.index(b) + "})"
}

// value returns an expression of a kind.
func (w *programming) value(kind string, depth int) string {
	b := w.buffer()
	if b.kind == kind && w.Intn(2) == 0 {
		return b.name + "{" + w.index(b) + "}"
	}
	return kind + "(" + w.integer(depth) + ")"
}

// condition returns the text of an expression of the kind Bool.
func (w *programming) condition(depth int) string {
	return w.text(w.integer(depth) + one(w.Maker, " < ", " < ", " <= ", " == ", " != ") + w.integer(depth-1))
}

// vector returns an expression of the kind I32 with several lanes.
func (w *programming) vector(lanes, depth int) string {
	n := strconv.Itoa(lanes)
	if depth > 0 {
		switch w.Intn(8) {
		case 0, 1:
			return "(" + w.vector(lanes, depth-1) + one(w.Maker, " + ", " - ", " * ") + w.vector(lanes, depth-1) + ")"
		case 2, 3:
			if b := w.buffer(); b.kind != "c64" {
				return "i32(" + b.name + "{" + w.modulo(w.vector(lanes, depth-1), b.size, lanes) + "})"
			}
		case 4:
			from := 2 + w.Intn(3)
			out := "shuffle(" + w.vector(from, depth-1)
			for range lanes {
				out += ", " + strconv.Itoa(w.Intn(from))
			}
			return out + ")"
		case 5:
			return "broadcast(reduce_add(" + w.vector(2+w.Intn(3), depth-1) + "), " + n + ")"
		}
	}
	if w.Intn(3) == 0 {
		return "broadcast(" + w.variable() + ", " + n + ")"
	}
	return "ramp(" + w.variable() + ", " + one(w.Maker, "1", "2", "-1", w.variable()) + ", " + n + ")"
}
