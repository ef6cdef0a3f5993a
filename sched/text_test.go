package sched_test

import (
	"fmt"
	"math/rand"
	"regexp"
	"slices"
	"strconv"
	"strings"
	"testing"

	"halation/api"
	"halation/sched"
)

// Promise P8.2.

// lineForm returns the form of the lines with an Op.
func lineForm(op int) *regexp.Regexp {
	const word, integer = ` ([^ ]+)`, ` (0|-?[1-9][0-9]{0,7})`
	r := rows[op]
	s := `^(?s)([^ .]+)`
	if r.isOfStages {
		s += `\.(0|-?[1-9][0-9]{0,7})`
	} else {
		s += `()`
	}
	s += " " + r.word
	if r.at {
		s += word
	}
	if op == api.Reorder {
		s += `((?: [^ ]+){2,})`
	} else {
		s += strings.Repeat(word, r.most)
	}
	if r.low {
		s += integer
	}
	if r.factor > 0 {
		s += integer
	}
	if r.tail {
		s += ` (round_up|guard|shift|exact)`
	}
	return regexp.MustCompile(s + `$`)
}

// forms are those of all Ops.
var forms = func() (l [api.Directives]*regexp.Regexp) {
	for op := range l {
		l[op] = lineForm(op)
	}
	return l
}()

// oracleParse reads a line.
func oracleParse(s string) (api.Directive, api.Errno) {
	for op, form := range forms {
		m := form.FindStringSubmatch(s)
		if m == nil {
			continue
		}
		r := rows[op]
		d := api.Directive{Func: m[1], Op: op}
		d.Stage, _ = strconv.Atoi(m[2])
		m = m[3:]
		if r.at {
			d.At, m = m[0], m[1:]
		}
		if op == api.Reorder {
			d.Vars = strings.Split(m[0][1:], " ")
		} else {
			d.Vars, m = m[:r.most], m[r.most:]
		}
		if r.low {
			d.Low, _ = strconv.Atoi(m[0])
			m = m[1:]
		}
		if r.factor > 0 {
			d.Factor, _ = strconv.Atoi(m[0])
			m = m[1:]
		}
		if r.tail {
			d.Tail = slices.Index(tails, m[0])
		}
		if err := oracleCheck(d); err != api.OK {
			return api.Directive{}, err
		}
		return d, api.OK
	}
	return api.Directive{}, api.ErrSyntax
}

func compareLine(t *testing.T, s string) api.Errno {
	t.Helper()
	want, wantErr := oracleParse(s)
	d, err := sched.ParseDirective(s)
	if err != wantErr || !same(d, want) {
		t.Fatalf("%q: %v %d, want %v %d", s, d, err, want, wantErr)
	}
	if err != api.OK {
		return err
	}
	if back, err := sched.PrintDirective(d); back != s || err != api.OK {
		t.Fatalf("%q is printed as %q, %d", s, back, err)
	}
	return api.OK
}

// TestMadeLines reads the lines of made directives, and what becomes of them by changes.
func TestMadeLines(t *testing.T) {
	fragments := []string{" ", "  ", "", ".", "0", "-0", "00", "1", "-1", "9", "65", "12345678", "123456789", "1048577", "x", "é", "\n", "\t", "split", "guard", "exact", "reorder", "f.0", "f", "compute_at", "fold", "bound", "+1", "1.0", ".0"}
	seen := map[api.Errno]int{}
	for seed := range int64(30000) {
		r := rand.New(rand.NewSource(seed))
		d := makeDirective(r, []string{"f", "split", strings.Repeat("g", 24)}, someVars)
		s := oracleLine(d)
		if err := compareLine(t, s); err != api.OK {
			t.Fatal("a right line", s, err)
		}
		if back, _ := sched.ParseDirective(s); !same(back, d) {
			t.Fatal("a directive comes back", s)
		}
		for range 1 + r.Intn(2) {
			f := fragments[r.Intn(len(fragments))]
			words := strings.Split(s, " ")
			i := r.Intn(len(words))
			switch r.Intn(4) {
			case 0:
				words[i] = f
			case 1:
				words = slices.Insert(words, i, f)
			case 2:
				words = slices.Delete(words, i, i+1)
			case 3:
				at := r.Intn(len(s) + 1)
				words = []string{s[:at] + f + s[min(len(s), at+r.Intn(2)):]}
			}
			s = strings.Join(words, " ")
		}
		seen[compareLine(t, s)]++
	}
	for _, err := range []api.Errno{api.OK, api.ErrSyntax, api.ErrName, api.ErrTwice, api.ErrRange} {
		if seen[err] < 20 {
			t.Error("rare", err, seen)
		}
	}
}

// TestLines has the edge cases that the document names.
func TestLines(t *testing.T) {
	vars := func(count int) string {
		s := ""
		for i := range count {
			s += fmt.Sprint(" v", i)
		}
		return s
	}
	for i, x := range []struct {
		s   string
		err api.Errno
	}{
		{"out split x xo xi 8 guard", api.ErrSyntax}, {"out.0 split x xo xi 08 guard", api.ErrSyntax}, {"out.0 split x x xi 8 guard", api.ErrTwice}, {"out.0 split x xo xi 65 guard", api.ErrRange}, {"out.4 unroll x", api.ErrRange}, {"out.-1 unroll x", api.ErrRange}, {"out.-0 unroll x", api.ErrSyntax}, {"out.00 unroll x", api.ErrSyntax}, {"out. unroll x", api.ErrSyntax}, {".0 unroll x", api.ErrSyntax}, {"out.0.0 unroll x", api.ErrSyntax}, {"out.x unroll x", api.ErrSyntax}, {"out.123456789 unroll x", api.ErrSyntax}, {"out.12345678 unroll x", api.ErrRange},
		{"", api.ErrSyntax}, {"f", api.ErrSyntax}, {"memoize", api.ErrSyntax}, {" memoize", api.ErrSyntax}, {"f memoize", api.OK}, {"f. memoize", api.ErrSyntax}, {"f.0 memoize", api.ErrSyntax}, {"f  memoize", api.ErrSyntax}, {"f memoize ", api.ErrSyntax}, {" f memoize", api.ErrSyntax}, {"f memoize x", api.ErrSyntax}, {"f memoize\n", api.ErrSyntax}, {"f\n memoize", api.ErrName}, {"9 memoize", api.ErrName}, {"f Memoize", api.ErrSyntax}, {"f.0 unroll", api.ErrSyntax}, {"f.0 unroll x y", api.ErrSyntax}, {"f.0 unroll 9", api.ErrName},
		{"f.0 reorder" + vars(1), api.ErrSyntax}, {"f.0 reorder" + vars(2), api.OK}, {"f.0 reorder" + vars(24), api.OK}, {"f.0 reorder" + vars(25), api.ErrShape}, {"f.0 reorder x  y", api.ErrSyntax}, {"f.0 reorder x y ", api.ErrSyntax}, {"9.0 reorder" + vars(25), api.ErrName},
		{"f.0 split x xo xi 8", api.ErrSyntax}, {"f.0 split x xo xi guard 8", api.ErrSyntax}, {"f.0 split x xo xi 8 Guard", api.ErrSyntax}, {"f.0 split x xo xi 8 guard exact", api.ErrSyntax}, {"f.0 split x xo xi 0 exact", api.ErrRange}, {"f.0 split x xo xi 1 round_up", api.OK}, {"f.0 split x xo xi 64 shift", api.OK}, {"f.0 split x xo xi -8 shift", api.ErrRange}, {"f.0 split x xo 8 shift", api.ErrSyntax}, {"f.0 split x xo xi xj 8 shift", api.ErrSyntax},
		{"f bound x -1048576 64", api.OK}, {"f bound x -1048577 64", api.ErrRange}, {"f bound x 0 65", api.ErrRange}, {"f bound x 0 0", api.ErrRange}, {"f bound x -0 1", api.ErrSyntax}, {"f bound x 1 2 3", api.ErrSyntax}, {"f bound x 1", api.ErrSyntax}, {"f bound x a 1", api.ErrSyntax}, {"f bound x 1 a", api.ErrSyntax}, {"f bound x 999999999 1", api.ErrSyntax}, {"f bound x 99999999 1", api.ErrRange},
		{"f fold x 1", api.OK}, {"f fold x 65", api.ErrRange}, {"f fold x y", api.ErrSyntax}, {"f fold 8", api.ErrSyntax}, {"f fold 8 8", api.ErrName}, {"f compute_at g x", api.OK}, {"f compute_at g", api.ErrSyntax}, {"f compute_at g x y", api.ErrSyntax}, {"f compute_at 9 x", api.ErrName}, {"f compute_at g 9", api.ErrName}, {"f.0 compute_at g x", api.ErrSyntax}, {"f store_at g x", api.OK}, {"f compute_root", api.OK}, {"f compute_root g", api.ErrSyntax}, {"f store_root", api.OK},
		{"f.3 fuse a b c", api.OK}, {"f.3 fuse a b", api.ErrSyntax}, {"f.1 rename a b", api.OK}, {"f.1 rename a a", api.ErrTwice}, {"f.2 vectorize a", api.OK}, {"f.2 parallel a", api.OK}, {"f.2 blocks a", api.OK}, {"f.2 threads a", api.OK},
	} {
		if _, err := sched.ParseDirective(x.s); err != x.err {
			t.Error(i, x.s, err)
		}
		compareLine(t, x.s)
	}
	long := "f.0 reorder xx" + strings.Repeat(" x", (api.MaxText-14)/2)
	if d, err := sched.ParseDirective(long + "x"); err != api.ErrLong || d.Vars != nil || len(long) != api.MaxText {
		t.Error("a long line", len(long), err)
	}
	if _, err := sched.ParseDirective(long); err != api.ErrShape {
		t.Error("the longest line", err)
	}
	if _, err := sched.ParseDirective(strings.Repeat(" ", api.MaxText+1)); err != api.ErrLong {
		t.Error("spaces", err)
	}
}

func TestTexts(t *testing.T) {
	for seed := range int64(4000) {
		r := rand.New(rand.NewSource(seed))
		s := makeSchedule(r, []string{"f", "g", "h"}, r.Intn(12))
		var lines []string
		for _, d := range s {
			lines = append(lines, oracleLine(d))
		}
		text, err := sched.Print(s)
		back, at, err2 := sched.Parse(text)
		if err != api.OK || text != textOf(lines) || err2 != api.OK || at != 0 || !sameSchedules(back, s) {
			t.Fatal(seed, text, err, at, err2)
		}
		if len(lines) > 0 { // without its last directive
			if back, _, err := sched.Parse(textOf(lines[:len(lines)-1])); err != api.OK || !sameSchedules(back, s[:len(s)-1]) {
				t.Fatal("without the last one", seed, err)
			}
			i := r.Intn(len(lines))
			lines[i] = "f unroll"
			if l, at, err := sched.Parse(textOf(lines)); l != nil || at != i || err != api.ErrSyntax {
				t.Fatal("a wrong line", seed, at, err)
			}
		}
	}
	for i, x := range []struct {
		s   string
		at  int
		err api.Errno
	}{
		{"", 0, api.OK}, {"\n", 0, api.ErrSyntax}, {"f memoize", 0, api.ErrSyntax}, {"f memoize\n", 0, api.OK}, {"f memoize\n\n", 1, api.ErrSyntax}, {"f memoize\nx", 1, api.ErrSyntax}, {"f memoize\nf memoize", 1, api.ErrSyntax}, {"f memoize\nf memoize\n", 1, api.ErrTwice}, {"f memoize\nf memoize\nx\n", 2, api.ErrSyntax}, {"f memoize\nf memoize\n9 memoize\n", 2, api.ErrName}, {"f.9 unroll x\nx", 0, api.ErrRange}, {"f memoize\r\n", 0, api.ErrSyntax},
		{strings.Repeat("f.0 unroll x\n", 64), 0, api.OK}, {strings.Repeat("f.0 unroll x\n", 65), 0, api.ErrMany}, {strings.Repeat("f.0 unroll x\n", 70) + "x\n", 70, api.ErrSyntax}, {strings.Repeat("f memoize\n", 65), 0, api.ErrMany}, {strings.Repeat("\n", api.MaxText+1), 0, api.ErrLong}, {strings.Repeat("\n", api.MaxText), 0, api.ErrSyntax}, {strings.Repeat("x", api.MaxText+1), 0, api.ErrLong},
		{"f fold x 2\nf fold y 2\nf bound x 0 1\nf bound y 0 1\n", 0, api.OK}, {"f fold x 2\nf fold y 2\nf fold x 3\n", 2, api.ErrTwice}, {"f bound x 0 1\ng bound x 0 1\nf bound x 1 1\n", 2, api.ErrTwice}, {"f compute_root\nf store_at g x\nf compute_at g x\n", 2, api.ErrTwice}, {"f store_root\ng store_root\nf store_at g x\n", 2, api.ErrTwice},
	} {
		if l, at, err := sched.Parse(x.s); at != x.at || err != x.err || err != api.OK && l != nil {
			t.Error(i, at, err)
		}
	}
}

// TestMemory prints directives whose variables are followed by others in memory.
func TestMemory(t *testing.T) {
	vars := []string{"x", "y", "z", "kept", "kept"}
	for op, r := range rows {
		d := api.Directive{Func: "f", Op: op, Vars: vars[:r.least], Factor: min(r.factor, 1)}
		if r.at {
			d.At = "g"
		}
		if _, err := sched.PrintDirective(d); err != api.OK {
			t.Error(r.word, err)
		}
		if _, err := sched.Print(api.Schedule{d}); err != api.OK {
			t.Error(r.word, err)
		}
	}
	if !slices.Equal(vars, []string{"x", "y", "z", "kept", "kept"}) {
		t.Error("changed", vars)
	}
}

// TestLongestText prints the longest schedule that there is, which is not too long.
func TestLongestText(t *testing.T) {
	d := api.Directive{Func: strings.Repeat("f", 24), Stage: 3, Op: api.Reorder}
	for i := range 24 {
		d.Vars = append(d.Vars, fmt.Sprintf("%024d", i))
		d.Vars[i] = "v" + d.Vars[i][1:]
	}
	s := slices.Repeat(api.Schedule{d}, 64)
	text, err := sched.Print(s)
	back, _, err2 := sched.Parse(text)
	if err != api.OK || err2 != api.OK || len(text) > api.MaxText || !sameSchedules(back, s) {
		t.Error(len(text), err, err2)
	}
}
