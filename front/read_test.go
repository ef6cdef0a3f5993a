package front_test

import (
	"fmt"
	"math/rand"
	"regexp"
	"slices"
	"strconv"
	"strings"
	"testing"

	"halation/api"
	"halation/expr"
	"halation/front"
	"halation/lang"
	"halation/num"
	"halation/pipe"
)

// Promise P7.1: the first error of a text.

const (
	integerForm = `(0|-?[1-9][0-9]{0,7})`
	boundForm   = `(0|-?[1-9][0-9]{0,18})`
	nameForm    = `([^ ]+)`
	partForm    = `([^ (),]+)`
)

// lineForms are the forms of lines, by a letter for each sort.
var lineForms = map[string]*regexp.Regexp{
	"P": regexp.MustCompile(`^(?s)pipeline ` + nameForm + `$`),
	"I": regexp.MustCompile(`^(?s)input ` + nameForm + ` ` + nameForm + ` ` + integerForm + `$`),
	"M": regexp.MustCompile(`^(?s)param ` + nameForm + ` ` + nameForm + ` ` + boundForm + ` ` + boundForm + `$`),
	"F": regexp.MustCompile(`^(?s)func ` + partForm + `\((` + `[^ (),]+(?:, [^ (),]+)*` + `)\) ` + partForm + ` = (.*)$`),
	"O": regexp.MustCompile(`^(?s)over ` + nameForm + ` ` + integerForm + ` ` + integerForm + `$`),
	"W": regexp.MustCompile(`^(?s)where (.*)$`),
	"S": regexp.MustCompile(`^(?s)set (.*?) = (.*)$`),
	"E": regexp.MustCompile(`^end$`),
}

// order is what the letters of the first lines may be.
var order = regexp.MustCompile(`^(P(I*M*|I*M*(F(O*W?S)*)+(O*W?)|I*M*(F(O*W?S)*)*E))?$`)

// oracle reads a text line by line.
type oracle struct {
	p       api.Pipeline
	decls   []lang.Decl
	lines   []int // of each function's stages
	update  api.Update
	letters string
}

func (o *oracle) declare(d lang.Decl) {
	for _, e := range o.decls {
		if e.Op == d.Op && e.Name == d.Name {
			return
		}
	}
	if expr.IsName(d.Name) && len(o.decls) < 64 {
		o.decls = append(o.decls, d)
	}
}

// line reads a line, and returns the column and the error.
func (o *oracle) line(s string) (int, api.Errno) {
	letter, found := "", []string(nil)
	for l, form := range lineForms {
		if m := form.FindStringSubmatch(s); m != nil && order.MatchString(o.letters+l) {
			letter, found = l, m
		}
	}
	if letter == "" {
		return 0, api.ErrSyntax
	}
	o.letters += letter
	number := func(s string) int64 {
		n, err := strconv.ParseInt(s, 10, 64)
		if err != nil {
			panic(err)
		}
		return n
	}
	switch letter {
	case "P":
		o.p.Name = found[1]
	case "I", "M":
		if letter == "M" && (outside(found[3]) || outside(found[4])) {
			return 0, api.ErrSyntax
		}
		kind, err := num.Kind(found[2])
		if err != api.OK {
			return 0, err
		}
		if letter == "I" {
			o.declare(lang.Decl{Op: api.EImage, Name: found[1], Kind: kind})
			o.p.Inputs = append(o.p.Inputs, api.Input{Name: found[1], Kind: kind, Dims: int(number(found[3]))})
		} else {
			o.declare(lang.Decl{Op: api.EParam, Name: found[1], Kind: kind})
			o.p.Params = append(o.p.Params, api.Param{Name: found[1], Kind: kind, Low: number(found[3]), High: number(found[4])})
		}
	case "O":
		o.update.Domain = append(o.update.Domain, axis(found[1], int(number(found[2])), int(number(found[3]))))
	case "F":
		kind, err := num.Kind(found[3])
		if err != api.OK {
			return 0, err
		}
		e, place, err := lang.Parse(found[4], o.decls)
		if err != api.OK {
			return len(s) - len(found[4]) + place, err
		}
		o.declare(lang.Decl{Op: api.ECall, Name: found[1], Kind: kind})
		o.p.Funcs = append(o.p.Funcs, api.Func{Name: found[1], Args: strings.Split(found[2], ", "), Kind: kind, Value: e})
	case "W":
		e, place, err := lang.Parse(found[1], o.decls)
		if err != api.OK {
			return len("where ") + place, err
		}
		o.update.Where = e
	case "S":
		l, place, err := lang.ParseList(found[1], o.decls)
		if err != api.OK {
			return len("set ") + place, err
		}
		e, place, err := lang.Parse(found[2], o.decls)
		if err != api.OK {
			return len(s) - len(found[2]) + place, err
		}
		o.update.Left, o.update.Value = l, e
		f := &o.p.Funcs[len(o.p.Funcs)-1]
		f.Updates = append(f.Updates, o.update)
		o.update = api.Update{}
	}
	return 0, api.OK
}

func outside(s string) bool {
	_, err := strconv.ParseInt(s, 10, 64)
	return err != nil
}

func (o *oracle) read(s string) (int, int, api.Errno) {
	lines := strings.SplitAfter(s, "\n")
	if lines[len(lines)-1] == "" {
		lines = lines[:len(lines)-1]
	}
	for i, line := range lines {
		if !strings.HasSuffix(line, "\n") {
			return i, 0, api.ErrSyntax
		}
		if column, err := o.line(strings.TrimSuffix(line, "\n")); err != api.OK {
			return i, column, err
		}
	}
	if !strings.HasSuffix(o.letters, "E") {
		return len(lines), 0, api.ErrSyntax
	}
	at, err := pipe.Check(o.p)
	if err == api.OK {
		return 0, 0, api.OK
	}
	line, f, stage := 0, -1, 0
	for i, l := range o.letters {
		if l == 'F' {
			f, stage = f+1, 0
		}
		if l == 'S' {
			stage++
		}
		if f == at.Func && at.Func >= 0 && (l == 'F' || l == 'S') && stage == max(0, at.Stage) {
			line = i
		}
	}
	return line, 0, err
}

func compare(t *testing.T, s string) api.Errno {
	t.Helper()
	var o oracle
	wantLine, wantColumn, wantErr := o.read(s)
	p, line, column, err := front.Parse(s)
	if line != wantLine || column != wantColumn || err != wantErr {
		t.Fatalf("%q: %d, %d, %d; want %d, %d, %d", s, line, column, err, wantLine, wantColumn, wantErr)
	}
	if err != api.OK {
		if !equal(p, api.Pipeline{}) {
			t.Fatalf("%q: a pipeline beside an error", s)
		}
		return err
	}
	if !equal(p, o.p) {
		t.Fatalf("%q: another pipeline", s)
	}
	again, err := front.Print(p)
	back, _, _, err2 := front.Parse(again)
	if err != api.OK || err2 != api.OK || !equal(back, p) {
		t.Fatalf("%q: read again %d, %d", s, err, err2)
	}
	return api.OK
}

// fragments are what stands in lines that are changed.
var fragments = []string{" ", "  ", "\n", "", ",", ", ", "(", ")", "=", " = ", "-", "0", "1", "-0", "01", "9", "99999999", "999999999", "-99999999", "x", "é", "\r", "#", "end\n", "over r 0 2\n", "where 1 < 2\n", "set x = 1\n", "func q(x) i32 = x\n", "input q u8 1\n", "param q u8 0 1\n", "pipeline q\n", "u8", "i32", "i33", "in", "@", "[", "]", "+", " + ", "9223372036854775807", "9223372036854775808", "-9223372036854775808", "-9223372036854775809", "1234567890123456789", "12345678901234567890"}

// TestChangedTexts reads texts in which something has been changed.
func TestChangedTexts(t *testing.T) {
	seen := map[api.Errno]int{}
	for seed := range int64(20 * 400) {
		r := rand.New(rand.NewSource(seed))
		p := makePipeline(seed % 400)
		s, _ := front.Print(p)
		if seed%3 == 0 {
			s = textOf(exampleLines())
		}
		for range 1 + r.Intn(2) {
			s = changed(r, s)
		}
		seen[compare(t, s)]++
	}
	for _, err := range []api.Errno{api.OK, api.ErrSyntax, api.ErrUnknown, api.ErrTwice, api.ErrMany, api.ErrRange, api.ErrType, api.ErrName, api.ErrOrder, api.ErrDims} {
		if seen[err] < 3 {
			t.Error("rare", err, seen)
		}
	}
}

// changed makes a change somewhere in a text.
func changed(r *rand.Rand, s string) string {
	lines := strings.SplitAfter(s, "\n")
	i, j := r.Intn(len(lines)), r.Intn(len(lines))
	switch r.Intn(7) {
	case 0: // a line twice
		return strings.Join(slices.Insert(lines, j, lines[i]), "")
	case 1: // a line less
		return strings.Join(slices.Delete(lines, i, i+1), "")
	case 2: // two lines exchanged
		lines[i], lines[j] = lines[j], lines[i]
		return strings.Join(lines, "")
	case 3: // the end cut off
		return s[:r.Intn(len(s)+1)]
	}
	if words := strings.Split(lines[i], " "); r.Intn(2) == 0 { // a word changed
		words[r.Intn(len(words))] = fragments[r.Intn(len(fragments))]
		lines[i] = strings.Join(words, " ")
		return strings.Join(lines, "")
	}
	at := r.Intn(len(s) + 1)
	end := min(len(s), at+r.Intn(3))
	return s[:at] + fragments[r.Intn(len(fragments))] + s[end:]
}

// TestErrorsOfTexts has the edge cases that the document names.
func TestErrorsOfTexts(t *testing.T) {
	long := strings.Repeat("x + ", 1100) + "x"
	for i, x := range []struct {
		at           int // the line that is replaced
		line         string
		where, place int
		err          api.Errno
	}{
		{0, "pipeline p q", 0, 0, api.ErrSyntax}, {0, "pipeline", 0, 0, api.ErrSyntax}, {0, "pipeline ", 0, 0, api.ErrSyntax}, {0, "Pipeline p", 0, 0, api.ErrSyntax}, {0, " pipeline p", 0, 0, api.ErrSyntax}, {0, "pipeline 9", 0, 0, api.ErrName}, {0, "pipeline p\npipeline p", 1, 0, api.ErrSyntax}, {0, "input a u8 1", 0, 0, api.ErrSyntax}, {0, "end", 0, 0, api.ErrSyntax},
		{1, "input 9 u8 1", 3, 30 - 7, api.ErrUnknown}, {1, "input in  1", 1, 0, api.ErrSyntax}, {1, "input in u8 -0", 1, 0, api.ErrSyntax}, {1, "input in u8 100000000", 1, 0, api.ErrSyntax}, {1, "input in u8 10000000", 0, 0, api.ErrDims}, {1, "input in U8 1", 1, 0, api.ErrUnknown}, {1, "input in U8 01", 1, 0, api.ErrSyntax}, {1, "input in u8 1 ", 1, 0, api.ErrSyntax}, {1, "input  in u8 1", 1, 0, api.ErrSyntax},
		{1, "input in u8 1\ninput in u8 1", 0, 0, api.ErrTwice}, {1, "input in u8 1\ninput in i32 2", 0, 0, api.ErrTwice}, {1, "input in i32 2\ninput in u8 1", 0, 0, api.ErrTwice},
		{2, "param gain i32 1 9999999999999999999", 2, 0, api.ErrSyntax}, {2, "param gain i32 1 9223372036854775807", 0, 0, api.ErrRange}, {2, "param gain i64 -9223372036854775808 9", 4, 18, api.ErrType}, {2, "param gain i32 1 10000000000000000000", 2, 0, api.ErrSyntax}, {2, "param gain c64 0 1", 4, 18, api.ErrType}, {2, "param gain i32 01 9", 2, 0, api.ErrSyntax}, {2, "param gain oops 1 9", 2, 0, api.ErrUnknown},
		{2, "param gain i32 1 9\ninput b u8 1", 3, 0, api.ErrSyntax}, {2, "param in i32 1 9", 4, 28, api.ErrUnknown},
		{3, "func blur(x) i32 = in[x]", 3, 0, api.ErrType}, {3, "func blur(x) i32 = ", 3, 19, api.ErrSyntax}, {3, "func blur(x) i32 =", 3, 0, api.ErrSyntax}, {3, "func blur(x) i32  = 1", 3, 0, api.ErrSyntax}, {3, "func blur(x) i32 =  1", 0, 0, api.OK}, {3, "func blur(x)i32 = 1", 3, 0, api.ErrSyntax}, {3, "func blur(x, ) i32 = 1", 3, 0, api.ErrSyntax}, {3, "func blur(x,  y) i32 = 1", 3, 0, api.ErrSyntax}, {3, "func blur (x) i32 = 1", 3, 0, api.ErrSyntax}, {3, "func (x) i32 = 1", 3, 0, api.ErrSyntax}, {3, "func blur((x) i32 = 1", 3, 0, api.ErrSyntax}, {3, "func blur(x)) i32 = 1", 3, 0, api.ErrSyntax}, {3, "func blur(9) i32 = 1", 3, 0, api.ErrName}, {3, "func 9(x) i32 = 1", 4, 18, api.ErrUnknown}, {3, "func blur(x) i33 = $", 3, 0, api.ErrUnknown}, {3, "func blur(x) = = 1", 3, 0, api.ErrUnknown}, {3, "func blur(x) i32 = blur(x)", 3, 19, api.ErrUnknown}, {3, "func blur(x) i32 = " + long, 3, 19, api.ErrLong}, {3, "func blur(x) i32 = x + 1u8", 3, 19, api.ErrType}, {3, "func blur(x) i32 = out.i32(x)", 3, 0, api.ErrUnknown},
		{4, "func out(x) i32 = out.i32(x)", 4, 0, api.ErrSelf}, {4, "func out(x) i32 = out(x)", 4, 18, api.ErrUnknown},
		{5, "over r 0 100000000", 5, 0, api.ErrSyntax}, {5, "over r 0 -1", 6, 0, api.ErrRange}, {5, "over r 0 4\nover r 0 4", 7, 0, api.ErrTwice}, {5, "over r 0 4\nover s 0 4\nover u 0 4", 8, 0, api.ErrMany}, {5, "over r 0 4\nwhere 1 < 2\nwhere 1 < 2", 7, 0, api.ErrSyntax}, {5, "where 1 < 2\nover r 0 4", 6, 0, api.ErrSyntax}, {5, "where", 5, 0, api.ErrSyntax}, {5, "where ", 5, 6, api.ErrSyntax}, {5, "over r 0 4\nwhere r", 7, 0, api.ErrType}, {5, "over r 0 4\nwhere  r < ", 6, 11, api.ErrSyntax},
		{6, "set  = 1", 6, 0, api.ErrDims}, {6, "set = 1", 6, 0, api.ErrSyntax}, {6, "set", 6, 0, api.ErrSyntax}, {6, "set x = ", 6, 8, api.ErrSyntax}, {6, "set x = 1 = 2", 6, 10, api.ErrSyntax}, {6, "set x + oops.i32(x, = 1", 6, 19, api.ErrSyntax}, {6, "set x, @gone = @lost", 6, 7, api.ErrUnknown}, {6, "set x = @lost", 6, 8, api.ErrUnknown}, {6, "set " + strings.Repeat("x, ", 8) + "x = 1", 6, 4, api.ErrMany}, {6, "set " + strings.Repeat("x, ", 7) + "x = 1", 6, 0, api.ErrDims}, {6, "set x = out(x)\nset x = out(x)\nwhere 1 < 2\nset x = 1\nset x = 1", 4, 0, api.ErrMany},
		{6, "set x = out(x)\nset x = out(x + 1)", 7, 0, api.ErrSelf}, {6, "func f(x) i32 = 1", 6, 0, api.ErrSyntax}, {6, "end", 6, 0, api.ErrSyntax}, {6, "", 6, 0, api.ErrSyntax},
		{7, "end ", 7, 0, api.ErrSyntax}, {7, "end\n", 8, 0, api.ErrSyntax}, {7, "end\nend", 8, 0, api.ErrSyntax}, {7, "param q i32 0 1", 7, 0, api.ErrSyntax}, {7, "", 7, 0, api.ErrSyntax},
	} {
		l := exampleLines()
		l[x.at] = x.line
		s := textOf(l)
		_, line, column, err := front.Parse(s)
		if line != x.where || column != x.place || err != x.err {
			t.Error(i, x.line, line, column, err)
		}
		compare(t, s)
	}
	for _, s := range []string{"", "\n", "pipeline p\nend\n", "pipeline p", "pipeline p\n", "pipeline p\ninput a u8 1\nend\n", "pipeline p\nparam k u8 0 1\nend\n", "pipeline p\r\nend\r\n", "pipeline p\nfunc f(x) i32 = x\nend", "pipeline p\nfunc f(x) i32 = x\nend\n ", "\xff\n"} {
		compare(t, s)
	}
}

// TestManyDeclarations has more lines that declare something than an expression can see.
func TestManyDeclarations(t *testing.T) {
	for _, count := range []int{63, 64, 65} {
		for _, doubled := range []string{"", "input a0 u16 1\n", "input 9 u16 1\n", "param a0 u8 0 1\n"} {
			s := "pipeline p\n"
			for i := range count {
				s += fmt.Sprintf("input a%d u8 1\n", i)
			}
			s += doubled + "param k u8 0 1\n"
			for _, value := range []string{"@k", fmt.Sprintf("a%d[x]", count-1), "a62[x]", "a0[x]"} {
				compare(t, s+"func f(x) u8 = "+value+"\nend\n")
			}
		}
	}
	if _, line, column, err := front.Parse("pipeline p\n" + strings.Repeat("input a u8 1\n", 70) + "param k u8 0 1\nfunc f(x) u8 = @k\nend\n"); line != 0 || column != 0 || err != api.ErrMany {
		t.Error("what is left out does not count", line, column, err)
	}
}
