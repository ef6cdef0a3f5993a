package sched

import (
	"slices"
	"strconv"
	"strings"

	"halation/api"
	"halation/text"
)

// digits is how many an integer has at most.
const digits = 8

// PrintDirective returns the line of a directive.
func PrintDirective(d api.Directive) (string, api.Errno) {
	if err := CheckDirective(d); err != api.OK {
		return "", err
	}
	return lineOf(d), api.OK
}

// lineOf returns the line of a right directive.
func lineOf(d api.Directive) string {
	f := formOf(d.Op)
	head := d.Func
	if f.loops {
		head += "." + strconv.Itoa(d.Stage)
	}
	return strings.Join(append([]string{head, f.word}, f.write(d)...), " ")
}

func writeVars(d api.Directive) []string {
	return d.Vars
}

func writeSplit(d api.Directive) []string {
	return append(writeFold(d), tailWords[d.Tail])
}

func writeAt(d api.Directive) []string {
	return append([]string{d.At}, d.Vars...)
}

func writeFold(d api.Directive) []string {
	return append(slices.Clone(d.Vars), strconv.Itoa(d.Factor))
}

func writeBound(d api.Directive) []string {
	return append(slices.Clone(d.Vars), strconv.Itoa(d.Low), strconv.Itoa(d.Factor))
}

// words are those of a line that have not been taken.
type words []string

// next takes a word.
func (w *words) next() string {
	first := (*w)[0]
	*w = (*w)[1:]
	return first
}

// ParseDirective returns the directive of a line.
func ParseDirective(s string) (api.Directive, api.Errno) {
	if len(s) > api.MaxText {
		return api.Directive{}, api.ErrLong
	}
	d, ok := read(s)
	if !ok {
		return api.Directive{}, api.ErrSyntax
	}
	if err := CheckDirective(d); err != api.OK {
		return api.Directive{}, err
	}
	return d, api.OK
}

// read returns the directive of a line that has the form of one.
func read(line string) (api.Directive, bool) {
	l, _ := text.Words(line)
	if len(l) < 2 {
		return api.Directive{}, false
	}
	op, err := Op(l[1])
	if err != api.OK {
		return api.Directive{}, false
	}
	f := formOf(op)
	d := api.Directive{Op: op}
	rest := words(l[2:])
	vars := len(rest) - f.others
	if !f.vars.admits(vars) || !readHead(&d, f, l[0]) {
		return api.Directive{}, false
	}
	isRead := f.read(&d, vars, rest.next)
	return d, isRead
}

// readHead reads the function's name, and the stage, if loops are meant.
func readHead(d *api.Directive, f form, head string) bool {
	name, stage, isDotted := strings.Cut(head, ".")
	d.Func = name
	if name == "" || isDotted != f.loops {
		return false
	}
	return !isDotted || readNumber(&d.Stage, stage)
}

func readNumber(to *int, s string) bool {
	n, ok := text.Integer(s, digits)
	*to = int(n)
	return ok
}

func readVars(d *api.Directive, vars int, next func() string) bool {
	for range vars {
		d.Vars = append(d.Vars, next())
	}
	return true
}

func readSplit(d *api.Directive, vars int, next func() string) bool {
	isNumber := readFold(d, vars, next)
	tail := next()
	for i, word := range tailWords {
		if word == tail {
			d.Tail = i
			return isNumber
		}
	}
	return false
}

func readAt(d *api.Directive, vars int, next func() string) bool {
	d.At = next()
	return readVars(d, vars, next)
}

func readFold(d *api.Directive, vars int, next func() string) bool {
	readVars(d, vars, next)
	return readNumber(&d.Factor, next())
}

func readBound(d *api.Directive, vars int, next func() string) bool {
	readVars(d, vars, next)
	isLow := readNumber(&d.Low, next())
	isFactor := readNumber(&d.Factor, next())
	return isLow && isFactor
}

// Print returns the text of a schedule.
func Print(s api.Schedule) (string, api.Errno) {
	if _, err := Check(s); err != api.OK {
		return "", err
	}
	var out strings.Builder
	for _, d := range s {
		out.WriteString(lineOf(d))
		out.WriteByte('\n')
	}
	if out.Len() > api.MaxText {
		return "", api.ErrLong
	}
	return out.String(), api.OK
}

// Parse returns the schedule of a text, or the index of the first wrong line.
func Parse(s string) (api.Schedule, int, api.Errno) {
	if len(s) > api.MaxText {
		return nil, 0, api.ErrLong
	}
	var out api.Schedule
	for line := range strings.Lines(s) {
		content, isEnded := strings.CutSuffix(line, "\n")
		if !isEnded {
			return nil, len(out), api.ErrSyntax
		}
		d, err := ParseDirective(content)
		if err != api.OK {
			return nil, len(out), err
		}
		out = append(out, d)
	}
	if i, err := Check(out); err != api.OK {
		return nil, i, err
	}
	return out, 0, api.OK
}
