package front

import (
	"strconv"
	"strings"

	"halation/api"
	"halation/list"
	"halation/num"
)

// Choice is a value for an integer (Number), or for a kind (Kind), of a generator.
type Choice struct {
	Name   string
	Number int
	Kind   int
}

// CheckChoices returns the first error of choices for a generator, or OK.
func CheckChoices(g Generator, l []Choice) api.Errno {
	_, err := CheckGenerator(g)
	if err := list.FirstError(err, list.ErrorIf(len(l) != len(g.Ints)+len(g.Kinds), api.ErrShape)); err != api.OK {
		return err
	}
	for i, c := range l {
		if err := choiceError(g, i, c); err != api.OK {
			return err
		}
	}
	return api.OK
}

// choiceError returns the error of the choice with an index.
func choiceError(g Generator, i int, c Choice) api.Errno {
	if i < len(g.Ints) {
		x := g.Ints[i]
		return list.FirstError(
			list.ErrorIf(c.Name != x.Name, api.ErrName),
			list.ErrorIf(c.Number < x.Low || c.Number > x.High, api.ErrRange),
			list.ErrorIf(c != Choice{Name: c.Name, Number: c.Number}, api.ErrKind))
	}
	return list.FirstError(
		list.ErrorIf(c.Name != g.Kinds[i-len(g.Ints)], api.ErrName),
		list.ErrorIf(c != Choice{Name: c.Name, Kind: c.Kind}, api.ErrRange),
		num.CheckKind(c.Kind))
}

// meant is what a name stands for: a number, or the name of a kind.
type meant struct {
	number int
	kind   string
}

// expander expands the lines of a generator.
type expander struct {
	lines  []string
	ends   map[int]int // the lines with which the repetitions are done, by their first lines
	values map[string]meant
	out    []string
	at     int // the line that is expanded
}

func expanderOf(g Generator, l []Choice) *expander {
	lines := make([]string, len(g.Lines))
	copy(lines, g.Lines)
	x := &expander{lines: lines, ends: map[int]int{}, values: map[string]meant{}}
	for i, c := range l {
		if i < len(g.Ints) {
			x.values[c.Name] = meant{number: c.Number}
		} else {
			x.values[c.Name] = meant{kind: kindName(c.Kind)}
		}
	}
	var open []int
	for i, line := range lines {
		if _, isRepeat, _ := repetitionOf(line); isRepeat {
			open = append(open, i)
		} else if isDone, _ := doneOf(line); isDone {
			last := len(open) - 1
			x.ends[open[last]] = i
			open = open[:last]
		}
	}
	return x
}

// Expand returns the lines of a generator by choices, or the index of the first wrong line.
func Expand(g Generator, l []Choice) ([]string, int, api.Errno) {
	if err := CheckChoices(g, l); err != api.OK {
		return nil, 0, err
	}
	x := expanderOf(g, l)
	if err := x.expand(0, len(g.Lines)); err != api.OK {
		return nil, x.at, err
	}
	return x.out, 0, api.OK
}

// expand expands the lines from one to before another one.
func (x *expander) expand(from, to int) api.Errno {
	for i := from; i < to; i++ {
		x.at = i
		if end, ok := x.ends[i]; ok {
			if err := x.repeat(i, end); err != api.OK {
				return err
			}
			i = end
			continue
		}
		if len(x.out) == MaxExpanded {
			return api.ErrMany
		}
		x.out = append(x.out, x.written(x.lines[i]))
	}
	return api.OK
}

// repeat expands a repetition.
func (x *expander) repeat(from, end int) api.Errno {
	head, _, _ := repetitionOf(x.lines[from])
	low, high := x.bound(head.bounds[0]), x.bound(head.bounds[1])
	times := max(0, high-low+1)
	if times > MaxRepeat {
		return api.ErrRange
	}
	for i := range times {
		x.values[head.name] = meant{number: low + i}
		if err := x.expand(from+1, end); err != api.OK {
			return err
		}
	}
	return api.OK
}

// bound returns the number of a bound.
func (x *expander) bound(s string) int {
	n, _ := strconv.Atoi(x.written(s))
	return n
}

// written returns a line with what its references mean.
func (x *expander) written(line string) string {
	var out strings.Builder
	for at := strings.Index(line, mark); at >= 0; at = strings.Index(line, mark) {
		r, size := referenceAt(line[at:])
		out.WriteString(line[:at])
		out.WriteString(x.meaning(r))
		line = line[at+size:]
	}
	out.WriteString(line)
	return out.String()
}

// meaning returns what a reference becomes.
func (x *expander) meaning(r reference) string {
	v := x.values[r.name]
	if v.kind != "" {
		return v.kind
	}
	return strconv.Itoa(v.number + r.add)
}

// Specialise returns the pipeline of a generator by choices, or the line and the column of the first error in its expanded text.
func Specialise(g Generator, l []Choice) (api.Pipeline, int, int, api.Errno) {
	lines, _, err := Expand(g, l)
	if err != api.OK {
		return api.Pipeline{}, 0, 0, err
	}
	var w printer
	w.line("pipeline", g.Name)
	for _, line := range lines {
		w.line(line)
	}
	w.line(lastLine)
	return Parse(w.String())
}
