package lang_test

import (
	"math/rand"
	"slices"
	"strings"
	"testing"

	"halation/api"
	"halation/expr"
	"halation/lang"
)

// Promise P3.3.

func TestTextsComeBack(t *testing.T) {
	for seed := range int64(madeTrees) {
		e, decls, others := makeTree(seed, 0).nodes(nil), makeDecls(seed), makeDecls(seed+1)
		s, err := lang.Print(e, decls)
		if err == api.ErrLong {
			continue
		}
		back, place, err2 := lang.Parse(s, decls)
		if err != api.OK || err2 != api.OK || place != 0 || !equalNodes(back, e) {
			t.Fatal("Parse", seed, s, back, err, err2)
		}
		f, _, err := lang.Format(s, decls)
		again, _, err2 := lang.Format(f, decls)
		if f != s || again != f || err != api.OK || err2 != api.OK {
			t.Fatal("Format", seed, s, f, again)
		}
		bare, err := lang.Print(e, nil)
		if err == api.ErrLong {
			continue
		}
		if back, _, err := lang.Parse(bare, others); err != api.OK || !equalNodes(back, e) { // each suffix is there
			t.Fatal("with other declarations", seed, bare, err)
		}
	}
}

func TestListsComeBack(t *testing.T) {
	for seed := range int64(madeTrees / 8) {
		var l []api.Expr
		var texts []string
		decls := makeDecls(seed)
		for i := range seed % 9 {
			l = append(l, makeTree(seed*9+i, 0).nodes(nil))
			s, _ := lang.Print(l[i], decls)
			texts = append(texts, s)
		}
		s, err := lang.PrintList(l, decls)
		if err == api.ErrLong {
			continue
		}
		if err != api.OK || s != strings.Join(texts, ", ") {
			t.Fatal("PrintList", seed, s, err)
		}
		back, _, err := lang.ParseList(s, decls)
		if err != api.OK || !slices.EqualFunc(back, l, equalNodes) {
			t.Fatal("ParseList", seed, s, back, err)
		}
	}
}

// TestMoreSpaces puts spaces between tokens, and parentheses around the whole.
func TestMoreSpaces(t *testing.T) {
	for seed := range int64(madeTrees / 3) {
		e, r := makeTree(seed, 0).nodes(nil), rand.New(rand.NewSource(seed))
		s, _ := lang.Print(e, nil)
		tokens, _, err := lang.Tokens(s)
		if err != api.OK || len(s) > lang.MaxLine/2 {
			continue
		}
		loose := "(  "
		for i, token := range tokens {
			end := len(s)
			if i+1 < len(tokens) {
				end = tokens[i+1].At
			}
			loose += s[token.At:end] + strings.Repeat(" ", r.Intn(3))
		}
		back, _, err := lang.Parse(loose+" )", nil)
		f, _, err2 := lang.Format(loose+" )", nil)
		if err != api.OK || err2 != api.OK || !equalNodes(back, e) || f != s {
			t.Fatal(seed, loose, err, err2)
		}
	}
}

// TestTokensAgain puts the tokens of texts together with spaces.
func TestTokensAgain(t *testing.T) {
	r := rand.New(rand.NewSource(3))
	for range 50000 {
		tokens, _, err := lang.Tokens(randomText(r))
		if err != api.OK {
			continue
		}
		var texts []string
		for _, t := range tokens {
			front, suffix := map[int]string{lang.AParam: "@", lang.AVar: "$"}[t.Kind], ""
			if t.Suffix != "" {
				suffix = "." + t.Suffix
			}
			texts = append(texts, front+t.Text+suffix)
		}
		again, _, err := lang.Tokens(strings.Join(texts, " "))
		if err != api.OK || !slices.EqualFunc(again, tokens, func(a, b lang.Token) bool {
			a.At, b.At = 0, 0
			return a == b
		}) {
			t.Fatal(texts, tokens, again, err)
		}
	}
}

// TestDifferentTexts finds no two expressions with one text.
func TestDifferentTexts(t *testing.T) {
	decls := examples()
	seen := map[string]api.Expr{}
	for seed := range int64(madeTrees) {
		e := makeTree(seed, 0).nodes(nil)
		s, err := lang.Print(e, decls)
		if err != api.OK {
			continue
		}
		if other, ok := seen[s]; ok && !equalNodes(e, other) {
			t.Fatal(s, e, other)
		}
		seen[s] = e
	}
}

// TestAnyArguments calls everything with arguments that are not well-formed, and looks at the arguments afterwards.
func TestAnyArguments(t *testing.T) {
	r := rand.New(rand.NewSource(4))
	for seed := range int64(3000) {
		e := makeTree(seed, 0).nodes(nil)
		at := r.Intn(len(e))
		switch r.Intn(7) {
		case 0:
			e[at].Op = r.Intn(200) - 100
		case 1:
			e[at].Kind = r.Intn(30) - 10
		case 2:
			e[at].Lanes = r.Intn(100) - 50
		case 3:
			e[at].Kids = append(e[at].Kids, r.Intn(20)-10)
		case 4:
			e[at].Kids = nil
		case 5:
			e[at].Name = randomText(r)
		case 6:
			e[at].Bits = r.Uint64()
		}
		s, err := lang.Print(e, nil)
		want := expr.Check(e)
		if err != want && err != api.ErrLong || err != api.OK && s != "" {
			t.Fatal("Print", seed, s, err, want)
		}
		text := randomText(r)
		decls := []lang.Decl{{Op: r.Intn(40) - 3, Name: randomText(r), Kind: r.Intn(20) - 3}}
		kept := slices.Clone(decls)
		_, _, e1 := lang.Parse(text, decls)
		_, _, e2 := lang.ParseList(text, decls)
		if bad := lang.CheckDecls(decls); bad != api.OK && (e1 != bad || e2 != bad) {
			t.Fatal("Parse", text, decls, e1, e2)
		}
		if !slices.Equal(kept, decls) {
			t.Fatal("changed declarations")
		}
	}
	deep := strings.Repeat("(", 2047) + "x" + strings.Repeat(")", 2047)
	if e, _, err := lang.Parse(deep, nil); len(e) != 1 || err != api.OK {
		t.Error("parentheses in one another", err)
	}
	if _, _, err := lang.Parse(strings.Repeat("!", 4095)+"x", nil); err != api.ErrMany {
		t.Error("many nodes", err)
	}
	if _, place, err := lang.Parse(strings.Repeat("f(", 2048), examples()); place != 4096 || err != api.ErrSyntax {
		t.Error("an open end", place, err)
	}
}

// TestOwnMemory changes arguments and results after calls.
func TestOwnMemory(t *testing.T) {
	e := makeTree(7, 0).nodes(nil)
	s, _ := lang.Print(e, nil)
	l, _, _ := lang.ParseList(s+", "+s, nil)
	a, _, _ := lang.Parse(s, nil)
	b, _, _ := lang.Parse(s, nil)
	for _, x := range []api.Expr{a, l[0]} {
		for i := range x {
			for j := range x[i].Kids {
				x[i].Kids[j] = -1
			}
			for j := range x[i].Picks {
				x[i].Picks[j] = -1
			}
			_ = append(x[i].Kids, -2)
			x[i] = api.Node{}
		}
		_ = append(x, api.Node{})
	}
	if !equalNodes(b, e) || !equalNodes(l[1], e) {
		t.Error("results share memory")
	}
}
