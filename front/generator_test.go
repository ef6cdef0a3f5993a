package front_test

import (
	"fmt"
	"math/rand"
	"regexp"
	"slices"
	"strconv"
	"strings"
	"testing"

	"halation/api"
	"halation/expr"
	"halation/front"
)

// Promises P7.2 and P7.3.

const longName = "nnnnnnnnnnnnnnnnnnnnnnnn" // 24 bytes

// referenceForm are references, also those with words that are too long.
var referenceForm = regexp.MustCompile(`#(?:([A-Za-z_][A-Za-z0-9_]*)|\(([A-Za-z_][A-Za-z0-9_]*)([+-][0-9]{1,3})\))`)

// oracleRefs returns the names of the references of a line, and those of sums; or that a mark is none.
func oracleRefs(line string) (all, sums []string, ok bool) {
	rest := line
	for _, m := range referenceForm.FindAllStringSubmatch(line, -1) {
		if len(m[1]+m[2]) > 24 {
			return nil, nil, false
		}
		all = append(all, m[1]+m[2])
		if m[2] != "" {
			sums = append(sums, m[2])
		}
	}
	rest = referenceForm.ReplaceAllString(rest, "!")
	return all, sums, !strings.Contains(rest, "#")
}

var repeatForm = regexp.MustCompile(`^repeat ([^ ]+) ([^ ]+) ([^ ]+)$`)

func isBound(s string) bool {
	m := referenceForm.FindString(s)
	return regexp.MustCompile(`^`+integerForm+`$`).MatchString(s) || m == s && m != ""
}

// oracleCheck is CheckGenerator in the document's words.
func oracleCheck(g front.Generator) (int, api.Errno) {
	if !expr.IsName(g.Name) {
		return -1, api.ErrName
	}
	if len(g.Ints) > 4 || len(g.Kinds) > 2 || len(g.Lines) > 128 {
		return -1, api.ErrMany
	}
	known := map[string]string{}
	for _, x := range g.Ints {
		switch {
		case !expr.IsName(x.Name):
			return -1, api.ErrName
		case known[x.Name] != "":
			return -1, api.ErrTwice
		case x.Low < -64 || x.Low > 64 || x.High < -64 || x.High > 64:
			return -1, api.ErrRange
		case x.Low > x.High:
			return -1, api.ErrOrder
		}
		known[x.Name] = "int"
	}
	for _, k := range g.Kinds {
		switch {
		case !expr.IsName(k):
			return -1, api.ErrName
		case known[k] != "":
			return -1, api.ErrTwice
		}
		known[k] = "kind"
	}
	var open []string
	for i, line := range g.Lines {
		if strings.Contains(line, "\n") || line == "end" || strings.HasPrefix(line, "int ") || strings.HasPrefix(line, "kind ") {
			return i, api.ErrForm
		}
		refs, sums, ok := oracleRefs(line)
		first := strings.Split(line, " ")[0]
		m := repeatForm.FindStringSubmatch(line)
		if !ok || first == "done" && line != "done" || first == "repeat" && (m == nil || !isBound(m[2]) || !isBound(m[3])) {
			return i, api.ErrSyntax
		}
		typed := sums
		if first == "repeat" {
			if !expr.IsName(m[1]) {
				return i, api.ErrName
			}
			if known[m[1]] != "" {
				return i, api.ErrTwice
			}
			if len(open) == 3 {
				return i, api.ErrMany
			}
			typed = refs
		}
		for _, r := range refs {
			if known[r] == "" {
				return i, api.ErrUnknown
			}
		}
		for _, r := range typed {
			if known[r] == "kind" {
				return i, api.ErrType
			}
		}
		if first == "done" {
			if len(open) == 0 {
				return i, api.ErrState
			}
			delete(known, open[len(open)-1])
			open = open[:len(open)-1]
		}
		if first == "repeat" {
			open = append(open, m[1])
			known[m[1]] = "int"
		}
	}
	if len(open) > 0 {
		return len(g.Lines), api.ErrState
	}
	return 0, api.OK
}

func TestExamplesOfGenerators(t *testing.T) {
	g := pyramid()
	choices := []front.Choice{{Name: "n", Number: 2}, {Name: "T", Kind: api.U8}}
	lines, at, err := front.Expand(g, choices)
	if !slices.Equal(lines, []string{"input in u8 1", "func f0(x) u8 = in[x]", "func f1(x) u8 = f0(x + 1)", "func f2(x) u8 = f1(x + 1)"}) || at != 0 || err != api.OK {
		t.Error("Expand", lines, at, err)
	}
	p, line, column, err := front.Specialise(g, choices)
	want, _, _, _ := front.Parse("pipeline pyr\n" + textOf(lines) + "end\n")
	if !equal(p, want) || len(p.Funcs) != 3 || line != 0 || column != 0 || err != api.OK {
		t.Error("Specialise", p, line, column, err)
	}
	if err := front.CheckChoices(g, []front.Choice{{Name: "n", Number: 5}, {Name: "T", Kind: api.U8}}); err != api.ErrRange {
		t.Error("n = 5", err)
	}
	if _, at, err := front.Expand(g, []front.Choice{{Name: "n", Number: 5}, {Name: "T", Kind: api.U8}}); at != 0 || err != api.ErrRange {
		t.Error("n = 5", at, err)
	}
	for i, x := range []struct {
		line, by string
		at       int
		err      api.Errno
	}{{"done", "", 4, api.ErrState}, {g.Lines[1], "func f0(x) #m = in[x]", 1, api.ErrUnknown}, {g.Lines[1], "func f0(x) #(T-1) = in[x]", 1, api.ErrType}} {
		changed := pyramid()
		k := slices.Index(changed.Lines, x.line)
		if x.by == "" {
			changed.Lines = changed.Lines[:k]
		} else {
			changed.Lines[k] = x.by
		}
		if at, err := front.CheckGenerator(changed); at != x.at || err != x.err {
			t.Error(i, at, err)
		}
	}
}

func TestCheckGenerator(t *testing.T) {
	x := func(name string, low, high int) front.IntParam {
		return front.IntParam{Name: name, Low: low, High: high}
	}
	for i, c := range []struct {
		g   front.Generator
		at  int
		err api.Errno
	}{
		{front.Generator{}, -1, api.ErrName}, {front.Generator{Name: "g"}, 0, api.OK}, {front.Generator{Name: longName}, 0, api.OK}, {front.Generator{Name: longName + "n", Ints: make([]front.IntParam, 5)}, -1, api.ErrName},
		{front.Generator{Name: "g", Ints: make([]front.IntParam, 5)}, -1, api.ErrMany}, {front.Generator{Name: "g", Ints: make([]front.IntParam, 4)}, -1, api.ErrName}, {front.Generator{Name: "g", Kinds: make([]string, 3), Ints: make([]front.IntParam, 1)}, -1, api.ErrMany}, {front.Generator{Name: "g", Kinds: make([]string, 2)}, -1, api.ErrName}, {front.Generator{Name: "g", Lines: make([]string, 129), Kinds: make([]string, 1)}, -1, api.ErrMany}, {front.Generator{Name: "g", Lines: make([]string, 128)}, 0, api.OK},
		{front.Generator{Name: "g", Ints: []front.IntParam{x("n", 0, 0), x("n", 65, 0)}}, -1, api.ErrTwice}, {front.Generator{Name: "g", Ints: []front.IntParam{x("n", 65, 0), x("n", 0, 0)}}, -1, api.ErrRange}, {front.Generator{Name: "g", Ints: []front.IntParam{x("n", 0, 65)}}, -1, api.ErrRange}, {front.Generator{Name: "g", Ints: []front.IntParam{x("n", -65, 65)}}, -1, api.ErrRange}, {front.Generator{Name: "g", Ints: []front.IntParam{x("n", 0, -65)}}, -1, api.ErrRange}, {front.Generator{Name: "g", Ints: []front.IntParam{x("n", -64, 64), x("m", 64, 64)}}, 0, api.OK}, {front.Generator{Name: "g", Ints: []front.IntParam{x("n", 1, 0), x("", 0, 0)}}, -1, api.ErrOrder}, {front.Generator{Name: "g", Ints: []front.IntParam{x("n", -1<<63, 1<<62)}}, -1, api.ErrRange},
		{front.Generator{Name: "g", Ints: []front.IntParam{x("g", 0, 0)}, Kinds: []string{"T", "g"}}, -1, api.ErrTwice}, {front.Generator{Name: "g", Kinds: []string{"T", "T"}}, -1, api.ErrTwice}, {front.Generator{Name: "g", Kinds: []string{"T", "9"}, Ints: []front.IntParam{x("n", 1, 0)}}, -1, api.ErrOrder}, {front.Generator{Name: "g", Kinds: []string{"g"}, Lines: []string{"end"}}, 0, api.ErrForm},
	} {
		if at, err := front.CheckGenerator(c.g); at != c.at || err != c.err {
			t.Error("CheckGenerator", i, at, err)
		}
		if at, err := oracleCheck(c.g); at != c.at || err != c.err {
			t.Error("the oracle", i, at, err)
		}
	}
	head := front.Generator{Name: "g", Ints: []front.IntParam{x("n", 0, 4), x(longName, 1, 2)}, Kinds: []string{"T"}}
	for i, c := range []struct {
		lines string
		at    int
		err   api.Errno
	}{
		{"a|b|", 0, api.OK}, {"end ", 0, api.OK}, {" end", 0, api.OK}, {"int", 0, api.OK}, {"kind", 0, api.OK}, {"int\tn", 0, api.OK}, {"a|int ", 1, api.ErrForm}, {"kind T", 0, api.ErrForm}, {"end#", 0, api.ErrSyntax}, {"int #", 0, api.ErrForm}, {"repeat i 1 2\n|done", 0, api.ErrForm},
		{"#", 0, api.ErrSyntax}, {"##n", 0, api.ErrSyntax}, {"#n#", 0, api.ErrSyntax}, {"#n#n#T", 0, api.OK}, {"# n", 0, api.ErrSyntax}, {"#1", 0, api.ErrSyntax}, {"#1 #m", 0, api.ErrSyntax}, {"#m #1", 0, api.ErrSyntax}, {"#" + longName, 0, api.OK}, {"#" + longName + "n", 0, api.ErrSyntax}, {"#(" + longName + "+1)", 0, api.OK}, {"#(" + longName + "n+1)", 0, api.ErrSyntax}, {"#né", 0, api.OK}, {"#az", 0, api.ErrUnknown}, {"repeat azAZ_09 1 2|#azAZ_09 #azAZ_0é #(azAZ_09-9)|done", 1, api.ErrUnknown}, {"repeat azAZ_09 1 2|#azAZ_09{#azAZ_09[#azAZ_09:#azAZ_09/#azAZ_09`#azAZ_09@|done", 0, api.OK}, {"#n.u8", 0, api.OK}, {"#nn", 0, api.ErrUnknown}, {"#N", 0, api.ErrUnknown}, {"#é", 0, api.ErrSyntax},
		{"#(n)", 0, api.ErrSyntax}, {"#(n+)", 0, api.ErrSyntax}, {"#(n+1", 0, api.ErrSyntax}, {"#(n+1) )", 0, api.OK}, {"#(n*1)", 0, api.ErrSyntax}, {"#(n+ 1)", 0, api.ErrSyntax}, {"#( n+1)", 0, api.ErrSyntax}, {"#(n +1)", 0, api.ErrSyntax}, {"#(n+999)#(n-000)", 0, api.OK}, {"#(n+1000)", 0, api.ErrSyntax}, {"#(n+1a)", 0, api.ErrSyntax}, {"#(+1)", 0, api.ErrSyntax}, {"#(9+1)", 0, api.ErrSyntax}, {"#(n--1)", 0, api.ErrSyntax}, {"#((n+1))", 0, api.ErrSyntax}, {"#(m+1)", 0, api.ErrUnknown}, {"#(T+1)", 0, api.ErrType}, {"#(T+1)#m", 0, api.ErrUnknown},
		{"repeat", 0, api.ErrSyntax}, {"repeat i", 0, api.ErrSyntax}, {"repeat i 1 2 3", 0, api.ErrSyntax}, {"repeat  1 2", 0, api.ErrSyntax}, {"repeat i  2", 0, api.ErrSyntax}, {"repeat i 1 2 ", 0, api.ErrSyntax}, {"repeat i 01 2", 0, api.ErrSyntax}, {"repeat i -0 2", 0, api.ErrSyntax}, {"repeat i 1 123456789", 0, api.ErrSyntax}, {"repeat i 1 -12345678", 1, api.ErrState}, {"repeat i n 2", 0, api.ErrSyntax}, {"repeat i #n1 2", 0, api.ErrUnknown}, {"repeat i 1 #n+1", 0, api.ErrSyntax}, {"repeat i #(n+1)2 2", 0, api.ErrSyntax}, {"repeats i 1 2", 0, api.OK}, {" repeat i", 0, api.OK}, {"repeat i 1 2", 1, api.ErrState},
		{"repeat 9 1 2", 0, api.ErrName}, {"repeat 9 #T #m", 0, api.ErrName}, {"repeat #n 1 2", 0, api.ErrName}, {"repeat i# 1 2", 0, api.ErrSyntax}, {"repeat " + longName + "n 1 2", 0, api.ErrName}, {"repeat n #m 2", 0, api.ErrTwice}, {"repeat T 1 2", 0, api.ErrTwice}, {"repeat g 1 2|done", 0, api.OK}, {"repeat i 1 2|repeat i 1 2", 1, api.ErrTwice}, {"repeat i 1 2|done|repeat i 1 2|done", 0, api.OK}, {"repeat i #i 2", 0, api.ErrUnknown}, {"repeat i 1 #(T+1)", 0, api.ErrType}, {"repeat i #T #m", 0, api.ErrUnknown}, {"repeat i #T 1", 0, api.ErrType}, {"repeat i 1 #T", 0, api.ErrType}, {"repeat i #n #(n-1)|#i #(i+1)|done|#i", 3, api.ErrUnknown},
		{"repeat a 1 2|repeat b 1 2|repeat c 1 2|repeat d 1 #m", 3, api.ErrMany}, {"repeat a 1 2|repeat b 1 2|repeat c 1 2|repeat a 1 2", 3, api.ErrTwice}, {"repeat a 1 2|repeat b #a 2|repeat c #b 2|#a #b #c|done|repeat c 1 2|done|done|done", 0, api.OK},
		{"done", 0, api.ErrState}, {"done #", 0, api.ErrSyntax}, {"done ", 0, api.ErrSyntax}, {"done#n", 0, api.OK}, {"repeat i 1 2|done|done", 2, api.ErrState}, {"repeat i 1 2|repeat j 1 2|done", 3, api.ErrState}, {"dones", 0, api.OK}, {" done", 0, api.OK},
	} {
		g := head
		g.Lines = strings.Split(c.lines, "|")
		if at, err := front.CheckGenerator(g); at != c.at || err != c.err {
			t.Error("CheckGenerator", i, c.lines, at, err)
		}
		if at, err := oracleCheck(g); at != c.at || err != c.err {
			t.Error("the oracle", i, c.lines, at, err)
		}
	}
}

// oracleExpand expands lines by replacing texts, and returns the index of the first wrong line.
func oracleExpand(lines []string, first int, values map[string]string, out *[]string) (int, api.Errno) {
	put := func(s string) string {
		return referenceForm.ReplaceAllStringFunc(s, func(r string) string {
			m := referenceForm.FindStringSubmatch(r)
			if m[2] == "" {
				return values[m[1]]
			}
			n, _ := strconv.Atoi(values[m[2]])
			add, _ := strconv.Atoi(m[3])
			return fmt.Sprint(n + add)
		})
	}
	for i := 0; i < len(lines); i++ {
		m := repeatForm.FindStringSubmatch(lines[i])
		if m == nil {
			if len(*out) >= 256 {
				return first + i, api.ErrMany
			}
			*out = append(*out, put(lines[i]))
			continue
		}
		end, depth := i+1, 1
		for ; ; end++ {
			if strings.HasPrefix(lines[end], "repeat ") {
				depth++
			} else if lines[end] == "done" {
				depth--
			}
			if depth == 0 {
				break
			}
		}
		low, _ := strconv.Atoi(put(m[2]))
		high, _ := strconv.Atoi(put(m[3]))
		if high >= low+16 {
			return first + i, api.ErrRange
		}
		for n := low; n <= high; n++ {
			values[m[1]] = fmt.Sprint(n)
			if at, err := oracleExpand(lines[i+1:end], first+i+1, values, out); err != api.OK {
				return at, err
			}
		}
		i = end
	}
	return 0, api.OK
}

func TestMadeGenerators(t *testing.T) {
	seen := map[api.Errno]int{}
	for seed := range int64(4000) {
		g := makeGenerator(seed)
		if at, err := front.CheckGenerator(g); at != 0 || err != api.OK {
			t.Fatalf("%d: %v %d %d", seed, g, at, err)
		}
		r := rand.New(rand.NewSource(seed))
		choices := makeChoices(g, r)
		values := map[string]string{}
		for i, c := range choices {
			values[c.Name] = fmt.Sprint(c.Number)
			if i >= len(g.Ints) {
				values[c.Name] = kindNames[c.Kind]
			}
		}
		var want []string
		wantAt, wantErr := oracleExpand(g.Lines, 0, values, &want)
		if wantErr != api.OK {
			want = nil
		}
		kept := slices.Clone(g.Lines)
		lines, at, err := front.Expand(g, choices)
		if !slices.Equal(lines, want) || at != wantAt || err != wantErr {
			t.Fatalf("Expand %d: %v %v %d %d, want %q %d %d", seed, g, lines, at, err, want, wantAt, wantErr)
		}
		seen[err]++
		for i := range lines {
			lines[i] = "changed"
		}
		s, err := front.PrintGenerators([]front.Generator{g})
		back, line, err2 := front.Generators(s)
		if err != api.OK || err2 != api.OK || line != 0 || len(back) != 1 || !equalGenerators(back[0], g) || !slices.Equal(kept, g.Lines) {
			t.Fatalf("texts %d: %v %v %d %d", seed, g, back, err, err2)
		}
		for range 8 { // something wrong
			wrong := g
			wrong.Lines = slices.Clone(g.Lines)
			changeLine(r, wrong.Lines)
			wantAt, wantErr := oracleCheck(wrong)
			if at, err := front.CheckGenerator(wrong); at != wantAt || err != wantErr {
				t.Fatalf("CheckGenerator %d: %v %d %d, want %d %d", seed, wrong, at, err, wantAt, wantErr)
			}
			seen[wantErr+1000]++
		}
	}
	for _, err := range []api.Errno{api.OK, api.ErrRange, api.ErrMany, 1000 + api.ErrSyntax, 1000 + api.ErrUnknown, 1000 + api.ErrState, 1000 + api.ErrType, 1000 + api.ErrForm, 1000 + api.ErrTwice, 1000 + api.ErrMany, 1000 + api.ErrName} {
		if seen[err] < 5 {
			t.Error("rare", err, seen)
		}
	}
}

// changeLine changes a line.
func changeLine(r *rand.Rand, lines []string) {
	if len(lines) == 0 {
		return
	}
	i, j := r.Intn(len(lines)), r.Intn(len(lines))
	fragments := []string{"#", "#n", "#(", ")", "+", " ", "", "\n", "9", "#min", "#T", "#f", "#g", "#in", "-", "(", "#kind", "#u8"}
	switch r.Intn(5) {
	case 0:
		lines[i], lines[j] = lines[j], lines[i]
	case 1:
		lines[i] = []string{"done", "end", "int x", "kind T", "repeat", "repeat q 1 2", "repeat 9 1 2", "done x", "repeat end 1 #select", "#(u8+1)", "repeat A9 1 2", "repeat f #int #kind"}[r.Intn(12)]
	case 2:
		lines[i] = lines[j]
	default:
		at := r.Intn(len(lines[i]) + 1)
		lines[i] = lines[i][:at] + fragments[r.Intn(len(fragments))] + lines[i][min(len(lines[i]), at+r.Intn(2)):]
	}
}

func TestPrintGenerators(t *testing.T) {
	ok, bad := front.Generator{Name: "g"}, front.Generator{Name: "9"}
	many := func(count int) []front.Generator {
		var out []front.Generator
		for i := range count {
			out = append(out, front.Generator{Name: fmt.Sprint("g", i)})
		}
		return out
	}
	long := func(count int) front.Generator { // 18 bytes without the line
		return front.Generator{Name: "long", Lines: []string{strings.Repeat("x", count)}}
	}
	for i, x := range []struct {
		l   []front.Generator
		err api.Errno
	}{
		{nil, api.OK}, {many(16), api.OK}, {many(17), api.ErrMany}, {make([]front.Generator, 17), api.ErrMany}, {make([]front.Generator, 16), api.ErrName}, {[]front.Generator{ok, bad, {Name: "g", Lines: []string{"end"}}}, api.ErrName}, {[]front.Generator{ok, {Name: "h", Lines: []string{"end"}}, bad}, api.ErrForm},
		{[]front.Generator{ok, ok}, api.ErrTwice}, {[]front.Generator{ok, {Name: "h"}, ok}, api.ErrTwice}, {[]front.Generator{ok, ok, bad}, api.ErrName}, {[]front.Generator{long(api.MaxText), long(api.MaxText)}, api.ErrTwice},
		{[]front.Generator{long(api.MaxText - 20)}, api.OK}, {[]front.Generator{long(api.MaxText - 19)}, api.ErrLong}, {[]front.Generator{ok, long(api.MaxText - 20)}, api.ErrLong},
	} {
		s, err := front.PrintGenerators(x.l)
		if err != x.err || err != api.OK && s != "" {
			t.Error(i, err)
			continue
		}
		if err == api.OK {
			back, line, err := front.Generators(s)
			if !slices.EqualFunc(back, x.l, equalGenerators) || line != 0 || err != api.OK {
				t.Error("back", i, line, err)
			}
		}
	}
	if s, _ := front.PrintGenerators([]front.Generator{long(api.MaxText - 20)}); len(s) != api.MaxText {
		t.Error("the longest text", len(s))
	}
}

func TestGenerators(t *testing.T) {
	const head = "generator g\n"
	for i, x := range []struct {
		s    string
		line int
		err  api.Errno
	}{
		{"", 0, api.OK}, {strings.Repeat("x", api.MaxText+1), 0, api.ErrLong}, {strings.Repeat("x", api.MaxText), 0, api.ErrSyntax}, {"\n", 0, api.ErrSyntax}, {"generator\n", 0, api.ErrSyntax}, {"generator \n", 0, api.ErrSyntax}, {"generator g h\n", 0, api.ErrSyntax}, {" generator g\n", 0, api.ErrSyntax}, {"generators g\n", 0, api.ErrSyntax}, {"generator  g\n", 0, api.ErrSyntax}, {"generator g", 0, api.ErrSyntax}, {"end\n", 0, api.ErrSyntax},
		{head, 1, api.ErrSyntax}, {head + "x\ny\n", 3, api.ErrSyntax}, {head + "end", 1, api.ErrSyntax}, {head + "end\n", 0, api.OK}, {head + "end\nx", 2, api.ErrSyntax}, {head + "end\n\n", 2, api.ErrSyntax}, {head + " end\nend\n", 0, api.OK}, {head + "end \nend\n", 0, api.OK},
		{head + "int n 1\nend\n", 1, api.ErrSyntax}, {head + "int n 1 2 3\nend\n", 1, api.ErrSyntax}, {head + "int  1 2\nend\n", 1, api.ErrSyntax}, {head + "int \nend\n", 1, api.ErrSyntax}, {head + "int\nend\n", 0, api.OK}, {head + "int n 1 02\nend\n", 1, api.ErrSyntax}, {head + "int n -0 2\nend\n", 1, api.ErrSyntax}, {head + "int n 1 123456789\nend\n", 1, api.ErrSyntax}, {head + "int n 1 12345678\nend\n", 0, api.ErrRange}, {head + "int n -64 64\nend\n", 0, api.OK}, {head + "int 9 1 2\nend\n", 0, api.ErrName}, {head + "int n 1 2\nint n 1 2\nend\n", 0, api.ErrTwice}, {head + "int n 2 1\nx\nint n\nend\n", 0, api.ErrOrder},
		{head + "kind \nend\n", 1, api.ErrSyntax}, {head + "kind T U\nend\n", 1, api.ErrSyntax}, {head + "kind T\nkind U\nend\n", 0, api.OK}, {head + "kind T\nkind \nend\n", 2, api.ErrSyntax}, {head + "kind\nend\n", 0, api.OK}, {head + "int n 1 2\nkind n\nend\n", 0, api.ErrTwice}, {head + "kind T\nint n 1 2\nend\n", 0, api.ErrForm}, {head + "kind T\nint n\nend\n", 0, api.ErrForm}, {head + "x\nkind T\nend\n", 0, api.ErrForm}, {head + "x\nint n 1\nend\n", 0, api.ErrForm}, {head + "int n 1 2\nx\nkind\nend\n", 0, api.OK},
		{head + "#m\nend\n", 0, api.ErrUnknown}, {head + "end\ngenerator h\n\nint\n#m\nend\n", 2, api.ErrUnknown}, {head + "end\n" + head + "end\n", 2, api.ErrTwice}, {head + "end\n" + head + "#m\nend\n", 2, api.ErrUnknown}, {head + "end\n" + head + "x", 3, api.ErrSyntax}, {head + "end\ngenerator 9\nx\nend\nx\n", 2, api.ErrName}, {head + "end\ngenerator 9\nx\n", 4, api.ErrSyntax},
		{head + strings.Repeat("x\n", 128) + "end\n", 0, api.OK}, {head + strings.Repeat("x\n", 129) + "end\n", 0, api.ErrMany}, {head + strings.Repeat("int n 1 2\n", 5) + "end\n", 0, api.ErrMany}, {head + strings.Repeat("kind T\n", 3) + "end\n", 0, api.ErrMany},
	} {
		l, line, err := front.Generators(x.s)
		if line != x.line || err != x.err || err != api.OK && l != nil {
			t.Error(i, strings.TrimPrefix(x.s, head), line, err)
		}
	}
	s := ""
	for i := range 16 {
		s += fmt.Sprintf("generator g%d\nend\n", i)
	}
	if l, _, err := front.Generators(s); len(l) != 16 || err != api.OK {
		t.Error("sixteen", len(l), err)
	}
	for more, want := range map[string]api.Errno{"generator 9\n": api.ErrMany, "generator g\n": api.ErrMany, "generator \n": api.ErrSyntax, "x\n": api.ErrSyntax} {
		if l, line, err := front.Generators(s + more); l != nil || line != 32 || err != want {
			t.Error("seventeen", more, line, err)
		}
	}
	l, _, _ := front.Generators(head + "int n 1 4\nkind T\nrepeat i 1 #n\n#T#i\ndone\n\nend\n" + "generator h\nend\n")
	want := []front.Generator{{Name: "g", Ints: []front.IntParam{{Name: "n", Low: 1, High: 4}}, Kinds: []string{"T"}, Lines: []string{"repeat i 1 #n", "#T#i", "done", ""}}, {Name: "h"}}
	if !slices.EqualFunc(l, want, equalGenerators) {
		t.Error("Generators", l)
	}
}

func TestCheckChoices(t *testing.T) {
	g := front.Generator{Name: "g", Ints: []front.IntParam{{Name: "n", Low: -2, High: 4}, {Name: "m", Low: 0, High: 0}}, Kinds: []string{"T"}}
	n, m, k := front.Choice{Name: "n", Number: 4}, front.Choice{Name: "m"}, front.Choice{Name: "T", Kind: api.C64}
	for i, x := range []struct {
		l   []front.Choice
		err api.Errno
	}{
		{[]front.Choice{n, m, k}, api.OK}, {[]front.Choice{{Name: "n", Number: -2}, m, {Name: "T"}}, api.OK}, {nil, api.ErrShape}, {[]front.Choice{n, m}, api.ErrShape}, {[]front.Choice{n, m, k, k}, api.ErrShape}, {make([]front.Choice, 2), api.ErrShape}, {make([]front.Choice, 3), api.ErrName},
		{[]front.Choice{m, n, k}, api.ErrName}, {[]front.Choice{{Name: "n", Number: 5, Kind: 1}, m, k}, api.ErrRange}, {[]front.Choice{{Name: "n", Number: -3}, k, k}, api.ErrRange}, {[]front.Choice{{Name: "n", Number: 4, Kind: 1}, k, k}, api.ErrKind}, {[]front.Choice{{Name: "n", Kind: -1}, m, k}, api.ErrKind}, {[]front.Choice{n, {Name: "m", Number: 1}, k}, api.ErrRange}, {[]front.Choice{n, k, k}, api.ErrName},
		{[]front.Choice{n, m, m}, api.ErrName}, {[]front.Choice{n, m, {Name: "T", Number: 1, Kind: 11}}, api.ErrRange}, {[]front.Choice{n, m, {Name: "T", Number: -1}}, api.ErrRange}, {[]front.Choice{n, m, {Name: "T", Kind: 11}}, api.ErrKind}, {[]front.Choice{n, m, {Name: "T", Kind: -1}}, api.ErrKind},
	} {
		err := front.CheckChoices(g, x.l)
		_, at, e1 := front.Expand(g, x.l)
		_, line, column, e2 := front.Specialise(g, x.l)
		if err != x.err || e1 != x.err || at != 0 || line != 0 || column != 0 || x.err != api.OK && e2 != x.err || x.err == api.OK && e2 != api.ErrEmpty {
			t.Error(i, err, e1, e2)
		}
	}
	g.Lines = []string{"", "#m", "done"}
	if err := front.CheckChoices(g, nil); err != api.ErrState {
		t.Error("a wrong generator", err)
	}
	if _, at, err := front.Expand(g, nil); at != 0 || err != api.ErrState {
		t.Error("a wrong generator", at, err)
	}
}

// lined returns a generator with the number n from -64 to 64, and a choice for it.
func lined(n int, lines ...string) (front.Generator, []front.Choice) {
	return front.Generator{Name: "g", Ints: []front.IntParam{{Name: "n", Low: -64, High: 64}}, Lines: lines}, []front.Choice{{Name: "n", Number: n}}
}

func TestExpandLimits(t *testing.T) {
	for i, x := range []struct {
		n     int
		lines string
		count int
		at    int
		err   api.Errno
	}{
		{16, "repeat i 1 #n|x|done", 16, 0, api.OK}, {17, "x|repeat i 1 #n|x|done", 0, 1, api.ErrRange}, {-3, "repeat i -18 #n|#i|done", 16, 0, api.OK}, {-2, "repeat i -18 #n|#i|done", 0, 0, api.ErrRange}, {1, "repeat i 1 #n|x|done", 1, 0, api.OK}, {0, "repeat i 1 #n|repeat j 1 99|done|done|y", 1, 0, api.OK}, {-64, "repeat i 1 #n|x|done", 0, 0, api.OK}, {1, "repeat i 99999999 -99999999|done", 0, 0, api.OK}, {1, "repeat i -99999999 99999999|done", 0, 0, api.ErrRange}, {9, "x|repeat i #n #(n+15)|#i|done", 17, 0, api.OK}, {9, "repeat i #(n-999) #(n-984)|done", 0, 0, api.OK}, {9, "repeat i #(n-999) #(n-983)|done", 0, 0, api.ErrRange},
		{16, "repeat i 1 #n|repeat j 1 16|x|done|done", 256, 0, api.OK}, {16, "repeat i 1 #n|repeat j 1 16|x|done|done|y", 0, 5, api.ErrMany}, {16, "x|repeat i 1 #n|repeat j 1 16|x|done|done", 0, 3, api.ErrMany}, {16, "repeat i 1 #n|repeat j 1 16|x|done|done|repeat i 1 17|done", 0, 5, api.ErrRange}, {16, "repeat i 1 #n|repeat j 1 16|repeat k 1 16|done|done|done|x", 1, 0, api.OK}, {20, "repeat i 1 16|repeat j #i #n|x|done|done", 0, 1, api.ErrRange}, {16, "repeat i 1 16|repeat j #i #n|x|done|done", 136, 0, api.OK}, {2, "repeat i 1 16|repeat j #i 18|x|done|done", 0, 1, api.ErrRange},
	} {
		g, choices := lined(x.n, strings.Split(x.lines, "|")...)
		l, at, err := front.Expand(g, choices)
		if len(l) != x.count || at != x.at || err != x.err {
			t.Error(i, x.lines, len(l), at, err)
		}
		if _, line, column, err := front.Specialise(g, choices); x.err != api.OK && (line != 0 || column != 0 || err != x.err) {
			t.Error("Specialise", i, line, column, err)
		}
	}
	long := []string{}
	for range 128 {
		long = append(long, strings.Repeat("x", 600))
	}
	g, choices := lined(1, long...)
	if l, _, err := front.Expand(g, choices); len(l) != 128 || err != api.OK {
		t.Error("long lines", len(l), err)
	}
	if _, line, column, err := front.Specialise(g, choices); line != 0 || column != 0 || err != api.ErrLong {
		t.Error("a long text", line, column, err)
	}
}

// TestSpecialise makes pipelines of generators.
func TestSpecialise(t *testing.T) {
	g := pyramid()
	g.Lines[3] = "func f#i(x) #T = f#i(x + 1)"
	for n := 1; n <= 4; n++ {
		p, line, column, err := front.Specialise(g, []front.Choice{{Name: "n", Number: n}, {Name: "T", Kind: api.F32}})
		if line != 3 || column != 17 || err != api.ErrUnknown || !equal(p, api.Pipeline{}) {
			t.Error("an error in the expanded text", line, column, err)
		}
	}
	for seed := range int64(300) { // without references and repetitions
		p := makePipeline(seed)
		s, _ := front.Print(p)
		lines := strings.Split(s, "\n")
		g := front.Generator{Name: p.Name, Lines: lines[1 : len(lines)-2]}
		made, line, column, err := front.Specialise(g, nil)
		if !equal(made, p) || line != 0 || column != 0 || err != api.OK {
			t.Fatal("a pipeline's lines", seed, line, column, err)
		}
	}
	for a := -3; a <= 3; a++ { // a repetition is two repetitions
		for b := a - 2; b <= a+5; b++ {
			for c := a - 1; c <= max(a-1, b); c++ {
				whole, choices := lined(b, fmt.Sprintf("repeat i %d #n", a), "#i #(i+1) #n", "done", "x")
				parts, _ := lined(b, fmt.Sprintf("repeat i %d %d", a, c), "#i #(i+1) #n", "done", fmt.Sprintf("repeat k %d #n", c+1), "#k #(k+1) #n", "done", "x")
				l, at, err := front.Expand(whole, choices)
				m, at2, err2 := front.Expand(parts, choices)
				if !slices.Equal(l, m) || at+at2 != 0 || err+err2 != api.OK || len(l) != 1+max(0, b-a+1) {
					t.Fatal("two repetitions", a, b, c, l, m)
				}
			}
		}
	}
}
