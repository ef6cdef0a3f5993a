package lang_test

import (
	"math/rand"
	"slices"
	"strings"
	"testing"

	"halation/api"
	"halation/expr"
	"halation/lang"
)

// The grammar of the document as rules for classes of tokens. Read with Earley's method, a token is refused just where
// no text that begins with the tokens up to it is right: that is where a token "cannot go on".
const grammar = `
TOP E0
E0 E1 | E1 == E1 | E1 != E1 | E1 < E1 | E1 <= E1
E1 E2 | E1 | E2
E2 E3 | E2 ^ E3
E3 E4 | E3 & E4
E4 E5 | E4 << E5 | E4 >> E5
E5 E6 | E5 + E6 | E5 - E6
E6 E7 | E6 * E7 | E6 / E7 | E6 % E7
E7 number | truth | name | $ | @ | suffixed ( LIST ) | name ( LIST ) | word [ LIST ] | word { E0 } | two ( E0 , E0 ) | select ( E0 , E0 , E0 ) | kind ( E0 ) | reduce ( E0 ) | ramp ( E0 , E0 , count ) | broadcast ( E0 , count ) | shuffle ( E0 COUNTS ) | ! E7 | ( E0 )
LIST E0 | LIST , E0
COUNTS , count | COUNTS , count
`

// rulesOf returns the right sides of each name of the grammar. The sign | is a token only between E1 and E2.
func rulesOf() map[string][][]string {
	out := map[string][][]string{}
	for _, line := range strings.Split(strings.TrimSpace(grammar), "\n") {
		name, sides, _ := strings.Cut(line, " ")
		if name == "E1" {
			out[name] = [][]string{{"E2"}, {"E1", "|", "E2"}}
			continue
		}
		for _, side := range strings.Split(sides, " | ") {
			out[name] = append(out[name], strings.Fields(side))
		}
	}
	return out
}

// classesOf returns the classes of a token.
func classesOf(t lang.Token) []string {
	isReserved := slices.Contains(reservedWords(), t.Text)
	_, isTwo := callWords[t.Text]
	_, isReduce := reduceWords[t.Text]
	switch {
	case t.Kind == lang.ASign:
		return []string{t.Text}
	case t.Kind == lang.AParam:
		return []string{"@"}
	case t.Kind == lang.AVar:
		return []string{"$"}
	case t.Kind == lang.ANumber && len(t.Text) <= 3 && strings.Trim(t.Text, "0123456789") == "":
		return []string{"number", "count"}
	case t.Kind == lang.ANumber:
		return []string{"number"}
	case t.Suffix != "":
		return []string{"word", "suffixed"}
	case !isReserved:
		return []string{"word", "name"}
	case t.Text == "true" || t.Text == "false":
		return []string{"word", "truth"}
	case isTwo:
		return []string{"word", "two"}
	case isReduce:
		return []string{"word", "reduce"}
	case t.Text == "select" || t.Text == "ramp" || t.Text == "broadcast" || t.Text == "shuffle":
		return []string{"word", t.Text}
	}
	return []string{"word", "kind"}
}

// item is a right side of a rule of which the parts before dot have been read, from a token on.
type item struct {
	name            string
	side, dot, from int
}

// recognizer is Earley's sets for the tokens that have been read.
type recognizer struct {
	rules map[string][][]string
	sets  [][]item
}

func newRecognizer(rules map[string][][]string, top string) *recognizer {
	r := &recognizer{rules: rules, sets: [][]item{nil}}
	for side := range rules[top] {
		r.sets[0] = append(r.sets[0], item{top, side, 0, 0})
	}
	r.close()
	return r
}

func (r *recognizer) next(i item) string {
	if side := r.rules[i.name][i.side]; i.dot < len(side) {
		return side[i.dot]
	}
	return ""
}

// close adds what can begin, and what has been completed, to the last set.
func (r *recognizer) close() {
	last := len(r.sets) - 1
	there := map[item]bool{}
	for _, i := range r.sets[last] {
		there[i] = true
	}
	add := func(i item) {
		if !there[i] {
			there[i] = true
			r.sets[last] = append(r.sets[last], i)
		}
	}
	for at := 0; at < len(r.sets[last]); at++ {
		i := r.sets[last][at]
		next := r.next(i)
		for side := range r.rules[next] {
			add(item{next, side, 0, last})
		}
		if next != "" {
			continue
		}
		for _, before := range r.sets[i.from] {
			if r.next(before) == i.name {
				add(item{before.name, before.side, before.dot + 1, before.from})
			}
		}
	}
}

// read reads a token as each of its classes, and returns those that can go on.
func (r *recognizer) read(t lang.Token) []string {
	var set []item
	var as []string
	for _, i := range r.sets[len(r.sets)-1] {
		if next := r.next(i); slices.Contains(classesOf(t), next) {
			set = append(set, item{i.name, i.side, i.dot + 1, i.from})
			as = append(as, next)
		}
	}
	r.sets = append(r.sets, set)
	r.close()
	return as
}

// isWhole reports whether what has been read is right.
func (r *recognizer) isWhole(top string) bool {
	return slices.ContainsFunc(r.sets[len(r.sets)-1], func(i item) bool { return i.name == top && i.from == 0 && r.next(i) == "" })
}

// textError returns the first error of a text but for those of expr.Check, and its place.
func textError(s string, l []lang.Decl, rules map[string][][]string, top string) (int, api.Errno) {
	if err := lang.CheckDecls(l); err != api.OK {
		return 0, err
	}
	tokens, place, err := tokensOf(s)
	if err != api.OK {
		return place, err
	}
	r := newRecognizer(rules, top)
	for i, t := range tokens {
		as := r.read(t)
		if len(as) == 0 {
			return t.At, api.ErrSyntax
		}
		if len(t.Text) > api.MaxName && (t.Kind == lang.AWord || t.Kind == lang.AParam || t.Kind == lang.AVar) {
			return t.At, api.ErrName
		}
		if slices.Contains(as, "number") {
			if _, err := lang.ParseLiteral(t.Text); err != api.OK {
				return t.At, err
			}
		}
		if t.Kind == lang.AParam && !hasKind(t, api.EParam, l) {
			return t.At, api.ErrUnknown
		}
		if i == 0 || tokens[i-1].Kind != lang.AWord || t.Kind != lang.ASign {
			continue
		}
		word := tokens[i-1]
		op, isBracket := map[string]int{"(": api.ECall, "[": api.EImage, "{": api.ELoad}[t.Text]
		isName := op != api.ECall || word.Suffix != "" || !slices.Contains(reservedWords(), word.Text)
		if isBracket && isName && !hasKind(word, op, l) {
			return word.At, api.ErrUnknown
		}
	}
	if len(tokens) == 0 && top == "LIST" || r.isWhole(top) {
		return 0, api.OK
	}
	return len(s), api.ErrSyntax
}

func hasKind(t lang.Token, op int, l []lang.Decl) bool {
	if t.Suffix != "" {
		return slices.Contains(kindNames, t.Suffix)
	}
	return slices.ContainsFunc(l, func(d lang.Decl) bool { return d.Op == op && d.Name == t.Text })
}

// mutated changes some tokens of a text.
func mutated(r *rand.Rand, s string) string {
	tokens, _, err := tokensOf(s)
	if err != api.OK || len(tokens) == 0 {
		return s
	}
	var texts []string
	for i, t := range tokens {
		end := len(s)
		if i+1 < len(tokens) {
			end = tokens[i+1].At
		}
		texts = append(texts, s[t.At:end])
	}
	pieces := []string{"(", ")", "[", "]", "{", "}", ",", "+ ", "- ", "==", "<", "!", "x ", "f", "f.u8", "f.q", "min", "u8", "true ", "ramp", "shuffle", "$x ", "@gain ", "@q ", "3 ", "-3 ", "1000 ", "05 ", "300u8 ", "1p0f32 ", "c64(1p0,1p0) ", "select", "reduce_or", strings.Repeat("n", 25) + " ", "@" + strings.Repeat("n", 25) + " "}
	for range 1 + r.Intn(2) {
		at := r.Intn(len(texts))
		switch r.Intn(4) {
		case 0:
			texts[at] = ""
		case 1:
			texts[at] = pieces[r.Intn(len(pieces))]
		case 2:
			texts[at] += pieces[r.Intn(len(pieces))]
		case 3:
			texts[at] = texts[r.Intn(len(texts))]
		}
	}
	return strings.Join(texts, "")
}

// TestPlaces compares the places of the first errors with those of the grammar.
func TestPlaces(t *testing.T) {
	rules := rulesOf()
	seen := map[api.Errno]int{}
	for seed := range int64(4000) {
		r := rand.New(rand.NewSource(seed))
		decls := append(makeDecls(seed), lang.Decl{Op: api.EParam, Name: "q", Kind: 3})
		s := makeTree(seed, 0).text(decls, style{r})
		if len(s) > 120 {
			s = "f.u8(x + 3, ramp(@gain.i32, 2, 4), min[x - -3], !true, shuffle(b.u8{x}, 1, 2) == select(x < y, 2u8, u8(y)))"
		}
		s = mutated(r, s)
		place, err := textError(s, decls, rules, "TOP")
		e, gotPlace, got := lang.Parse(s, decls)
		if err == api.OK { // what is left are errors of the expression
			place = 0
			if got != api.OK && got != api.ErrType && got != api.ErrVector && got != api.ErrShape {
				t.Fatalf("Parse %q: %v", s, got)
			}
			err = got
		}
		seen[err]++
		if gotPlace != place || got != err || (got == api.OK) != (expr.Check(e) == api.OK) {
			t.Fatalf("Parse %q: %v %v, not %v %v", s, gotPlace, got, place, err)
		}
		if text, p, e := lang.Format(s, decls); p != place || e != err || (text != "") != (err == api.OK) {
			t.Fatalf("Format %q: %v %v, not %v %v", s, p, e, place, err)
		}
	}
	for _, err := range []api.Errno{api.OK, api.ErrSyntax, api.ErrUnknown, api.ErrName, api.ErrRange} {
		if seen[err] < 20 {
			t.Error("an error is rare", err, seen)
		}
	}
}

// TestListPlaces does the same for lists.
func TestListPlaces(t *testing.T) {
	rules := rulesOf()
	for seed := range int64(1500) {
		r := rand.New(rand.NewSource(seed))
		s := mutated(r, strings.Join([]string{"x", "y + 1", " f(x, 3)", "true", "!(x == y)"}[:1+r.Intn(5)], ", "))
		if r.Intn(10) == 0 {
			s = randomText(r)
		}
		place, err := textError(s, examples(), rules, "LIST")
		l, gotPlace, got := lang.ParseList(s, examples())
		if err == api.OK && (got == api.ErrType || got == api.ErrShape || got == api.ErrVector) {
			err = got
		}
		if gotPlace != place || got != err || got != api.OK && len(l) > 0 {
			t.Fatalf("ParseList %q: %v %v, not %v %v", s, gotPlace, got, place, err)
		}
	}
}
