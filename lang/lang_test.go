package lang_test

import (
	"fmt"
	"math/rand"
	"regexp"
	"slices"
	"strings"
	"testing"

	"halation/api"
	"halation/expr"
	"halation/lang"
)

// signOf has the signs with their levels, as the document lists them.
var signOf = map[int]struct {
	sign  string
	level int
}{
	api.EEq: {"==", 0}, api.ENe: {"!=", 0}, api.ELt: {"<", 0}, api.ELe: {"<=", 0},
	api.EOr: {"|", 1}, api.EXor: {"^", 2}, api.EAnd: {"&", 3}, api.EShl: {"<<", 4}, api.EShr: {">>", 4},
	api.EAdd: {"+", 5}, api.ESub: {"-", 5}, api.EMul: {"*", 6}, api.EDiv: {"/", 6}, api.EMod: {"%", 6},
}

var kindNames = []string{"bool", "u8", "u16", "u32", "u64", "i8", "i16", "i32", "i64", "f32", "c64"}

// callWords has the reserved words that are written before two expressions.
var callWords = map[string]int{"min": api.EMin, "max": api.EMax, "sat_add": api.ESatAdd, "sat_sub": api.ESatSub, "avg": api.EAvg, "dist": api.EDist}

var reduceWords = map[string]int{"reduce_add": api.EAdd, "reduce_min": api.EMin, "reduce_max": api.EMax, "reduce_and": api.EAnd, "reduce_or": api.EOr, "reduce_xor": api.EXor}

// reservedWords returns all words that the document reserves.
func reservedWords() []string {
	out := []string{"true", "false", "select", "ramp", "broadcast", "shuffle"}
	for _, k := range kindNames {
		out = append(out, k, "sat_"+k)
	}
	for w := range callWords {
		out = append(out, w)
	}
	for w := range reduceWords {
		out = append(out, w)
	}
	return out
}

func value(kind int, bits uint64) api.Value { return api.Value{Kind: kind, Bits: bits} }

func equalNodes(a, b api.Expr) bool { return expr.Same(a, b) }

// Promise P3.1.

func TestReserved(t *testing.T) {
	words := reservedWords()
	if len(words) != 22+6+6+6 {
		t.Fatal("the document's words", len(words))
	}
	for _, w := range words {
		if !lang.Reserved(w) {
			t.Error("not reserved", w)
		}
		for _, other := range []string{w + "_", "_" + w, strings.ToUpper(w), w[1:] + "q", w + " ", "sat_sat_" + w} {
			if lang.Reserved(other) && !slices.Contains(words, other) {
				t.Error("reserved", other)
			}
		}
	}
	for _, w := range []string{"", "x", "sat_", "sat", "reduce_", "reduce_mul", "reduce_sub", "add", "i128", "load", "not", "cast", "mod", "\x00", "true\x00", "é"} {
		if lang.Reserved(w) {
			t.Error("reserved", w)
		}
	}
}

func TestSign(t *testing.T) {
	for op := -2; op < api.Ops+2; op++ {
		want, ok := signOf[op]
		wantErr := api.OK
		if !ok {
			wantErr = api.ErrUnknown
		}
		sign, level, err := lang.Sign(op)
		if sign != want.sign || level != want.level || err != wantErr {
			t.Error("Sign", op, sign, level, err)
		}
		if back, err := lang.SignOp(want.sign); ok && (back != op || err != api.OK) {
			t.Error("SignOp", want.sign, back, err)
		}
	}
	for _, s := range []string{"", "!", "(", ")", "[", "]", "{", "}", ",", "=", ">", ">=", "===", "<<=", "+ ", " +", "+\x00", "&&", "min", "@", "$", "."} {
		if op, err := lang.SignOp(s); op != 0 || err != api.ErrUnknown {
			t.Errorf("SignOp %q %v %v", s, op, err)
		}
	}
	if _, _, err := lang.Sign(-1 << 63); err != api.ErrUnknown {
		t.Error("the least Op", err)
	}
}

func TestLiteral(t *testing.T) {
	for i, x := range []struct {
		v api.Value
		s string
		e api.Errno
	}{
		{value(api.I32, 5), "5", api.OK}, {value(api.I32, 1<<32-3), "-3", api.OK}, {value(api.I32, 0), "0", api.OK}, {value(api.I32, 1<<31), "-2147483648", api.OK},
		{value(api.U32, 5), "5u32", api.OK}, {value(api.I64, 1<<64-3), "-3i64", api.OK}, {value(api.Bool, 1), "true", api.OK}, {value(api.Bool, 0), "false", api.OK},
		{value(api.F32, 0x3fc00000), "3p-1f32", api.OK}, {value(api.C64, 0x3f800000), "c64(1p0,0p0)", api.OK},
		{value(api.I32, 1<<32), "", api.ErrForm}, {value(api.U8, 256), "", api.ErrForm}, {value(11, 0), "", api.ErrKind}, {value(-1, 0), "", api.ErrKind}, {value(api.F32, 1<<31), "", api.ErrForm},
	} {
		s, err := lang.Literal(x.v)
		if s != x.s || err != x.e {
			t.Error("Literal", i, s, err)
		}
		if back, err := lang.ParseLiteral(s); x.e == api.OK && (back != x.v || err != api.OK) {
			t.Error("back", i, s, back, err)
		}
	}
}

func TestParseLiteral(t *testing.T) {
	digits := strings.Repeat("1", 62)
	for i, x := range []struct {
		s string
		v api.Value
		e api.Errno
	}{
		{"5", value(api.I32, 5), api.OK}, {"-1", value(api.I32, 1<<32-1), api.OK}, {"2147483647", value(api.I32, 1<<31-1), api.OK},
		{"7u8", value(api.U8, 7), api.OK}, {"true", value(api.Bool, 1), api.OK}, {"1p0f32", value(api.F32, 0x3f800000), api.OK}, {"c64(0p0,1p0)", value(api.C64, 0x3f800000<<32), api.OK},
		{"5i32", api.Value{}, api.ErrSyntax}, {"-5i32", api.Value{}, api.ErrSyntax}, {"05i32", api.Value{}, api.ErrSyntax}, {"99999999999i32", api.Value{}, api.ErrSyntax},
		{digits + digits + "i32", api.Value{}, api.ErrSyntax}, {digits, api.Value{}, api.ErrLong}, {"-" + digits, api.Value{}, api.ErrLong}, {digits[:61], api.Value{}, api.ErrSyntax},
		{"i32", api.Value{}, api.ErrSyntax}, {"-i32", api.Value{}, api.ErrSyntax}, {"", api.Value{}, api.ErrSyntax}, {"-", api.Value{}, api.ErrSyntax}, {"--5", api.Value{}, api.ErrSyntax}, {"--5i32", api.Value{}, api.ErrSyntax},
		{"05", api.Value{}, api.ErrSyntax}, {"-0", api.Value{}, api.ErrSyntax}, {"2147483648", api.Value{}, api.ErrRange}, {"-2147483649", api.Value{}, api.ErrRange}, {"12345678901234567890", api.Value{}, api.ErrRange}, {"123456789012345678901", api.Value{}, api.ErrSyntax},
		{"256u8", api.Value{}, api.ErrRange}, {"5 ", api.Value{}, api.ErrSyntax}, {"5x", api.Value{}, api.ErrSyntax}, {"٥", api.Value{}, api.ErrSyntax}, {strings.Repeat("x", 65), api.Value{}, api.ErrLong}, {"2p0f32", api.Value{}, api.ErrRange}, {"1p0", api.Value{}, api.ErrSyntax},
	} {
		if v, err := lang.ParseLiteral(x.s); v != x.v || err != x.e {
			t.Errorf("ParseLiteral %d %q %v %v", i, x.s, v, err)
		}
	}
}

// The tokens as regular expressions, from the document's words.
var (
	numberForm = regexp.MustCompile(`^(c64\(-?[0-9]+p-?[0-9]+,-?[0-9]+p-?[0-9]+\)|-?[0-9]+(p-?[0-9]+)?[A-Za-z0-9_]*)`)
	wordForm   = regexp.MustCompile(`^([@$]?)([A-Za-z_][A-Za-z0-9_]*)(\.([A-Za-z_][A-Za-z0-9_]*))?`)
	signForm   = regexp.MustCompile(`^(<<|>>|==|!=|<=|[()\[\]{},+\-*/%&|^<!])`)
)

// tokensOf is Tokens by these forms.
func tokensOf(s string) ([]lang.Token, int, api.Errno) {
	if len(s) > lang.MaxLine {
		return nil, 0, api.ErrLong
	}
	var out []lang.Token
	for at := 0; at < len(s); {
		if s[at] == ' ' {
			at++
			continue
		}
		t, size := tokenOf(s[at:], out)
		if size == 0 {
			return nil, at, api.ErrSyntax
		}
		t.At = at
		out = append(out, t)
		at += size
	}
	return out, 0, api.OK
}

func tokenOf(s string, before []lang.Token) (lang.Token, int) {
	minus := len(before) == 0
	if !minus {
		last := before[len(before)-1]
		minus = last.Kind == lang.ASign && !strings.Contains(")]}", last.Text)
	}
	if m := numberForm.FindString(s); m != "" && (minus || m[0] != '-') {
		return lang.Token{Kind: lang.ANumber, Text: m}, len(m)
	}
	if m := wordForm.FindStringSubmatch(s); m != nil {
		kind := map[string]int{"": lang.AWord, "@": lang.AParam, "$": lang.AVar}[m[1]]
		if kind == lang.AVar {
			return lang.Token{Kind: kind, Text: m[2]}, len(m[1]) + len(m[2])
		}
		return lang.Token{Kind: kind, Text: m[2], Suffix: m[4]}, len(m[0])
	}
	m := signForm.FindString(s)
	return lang.Token{Kind: lang.ASign, Text: m}, len(m)
}

// randomText returns pieces of tokens, one after the other.
func randomText(r *rand.Rand) string {
	pieces := []string{" ", "  ", "x", "f", "min", "c64", "c64(", "1p0", "-", "-", "3", "300", "u8", "i32", "p", "p-1", "f32", "_", "@", "$", ".", ".u8", "(", ")", "[", "]", "{", "}", ",", "+", "*", "/", "%", "&", "|", "^", "<", "<<", ">", ">>", "=", "==", "!", "!=", "<=", "true", "é", "\x00", "#", "\t", "c64(1p0,-1p0)"}
	var b strings.Builder
	for range r.Intn(14) {
		b.WriteString(pieces[r.Intn(len(pieces))])
	}
	return b.String()
}

func TestTokens(t *testing.T) {
	r := rand.New(rand.NewSource(1))
	for range 200000 {
		s := randomText(r)
		l, place, err := lang.Tokens(s)
		want, wantPlace, wantErr := tokensOf(s)
		if !slices.Equal(l, want) || place != wantPlace || err != wantErr {
			t.Fatalf("%q: %v %v %v, not %v %v %v", s, l, place, err, want, wantPlace, wantErr)
		}
	}
}

func TestTokensNamed(t *testing.T) {
	word := func(s string, at int) lang.Token { return lang.Token{Kind: lang.AWord, Text: s, At: at} }
	sign := func(s string, at int) lang.Token { return lang.Token{Kind: lang.ASign, Text: s, At: at} }
	number := func(s string, at int) lang.Token { return lang.Token{Kind: lang.ANumber, Text: s, At: at} }
	for i, x := range []struct {
		s     string
		l     []lang.Token
		place int
		e     api.Errno
	}{
		{"", nil, 0, api.OK}, {"   ", nil, 0, api.OK},
		{"x - -3", []lang.Token{word("x", 0), sign("-", 2), number("-3", 4)}, 0, api.OK},
		{"x -3", []lang.Token{word("x", 0), sign("-", 2), number("3", 3)}, 0, api.OK},
		{"-3", []lang.Token{number("-3", 0)}, 0, api.OK},
		{" - 3", []lang.Token{sign("-", 1), number("3", 3)}, 0, api.OK},
		{")-3", []lang.Token{sign(")", 0), sign("-", 1), number("3", 2)}, 0, api.OK},
		{"(-3", []lang.Token{sign("(", 0), number("-3", 1)}, 0, api.OK},
		{"]-3}-3!-3", []lang.Token{sign("]", 0), sign("-", 1), number("3", 2), sign("}", 3), sign("-", 4), number("3", 5), sign("!", 6), number("-3", 7)}, 0, api.OK},
		{"c64(1p0,-2p-3)", []lang.Token{number("c64(1p0,-2p-3)", 0)}, 0, api.OK},
		{"c64(1p0, 2p0)", []lang.Token{word("c64", 0), sign("(", 3), number("1p0", 4), sign(",", 7), number("2p0", 9), sign(")", 12)}, 0, api.OK},
		{"3p-1f32+3p-x", []lang.Token{number("3p-1f32", 0), sign("+", 7), number("3p", 8), sign("-", 10), word("x", 11)}, 0, api.OK},
		{"f.u8 @g.i16 $h", []lang.Token{{Kind: lang.AWord, Text: "f", Suffix: "u8"}, {Kind: lang.AParam, Text: "g", Suffix: "i16", At: 5}, {Kind: lang.AVar, Text: "h", At: 12}}, 0, api.OK},
		{"AZ_09az[Z]", []lang.Token{word("AZ_09az", 0), sign("[", 7), word("Z", 8), sign("]", 9)}, 0, api.OK},
		{"3AZ", []lang.Token{number("3AZ", 0)}, 0, api.OK},
		{"c64(1,2p0)", []lang.Token{word("c64", 0), sign("(", 3), number("1", 4), sign(",", 5), number("2p0", 6), sign(")", 9)}, 0, api.OK},
		{"c64(1p0,2)", []lang.Token{word("c64", 0), sign("(", 3), number("1p0", 4), sign(",", 7), number("2", 8), sign(")", 9)}, 0, api.OK},
		{"c64(p1,2p0)", []lang.Token{word("c64", 0), sign("(", 3), word("p1", 4), sign(",", 6), number("2p0", 7), sign(")", 10)}, 0, api.OK},
		{"c64(1p,2p0)", []lang.Token{word("c64", 0), sign("(", 3), number("1p", 4), sign(",", 6), number("2p0", 7), sign(")", 10)}, 0, api.OK},
		{"c64(1p0,2p0", []lang.Token{word("c64", 0), sign("(", 3), number("1p0", 4), sign(",", 7), number("2p0", 8)}, 0, api.OK},
		{"c64(1p0)", []lang.Token{word("c64", 0), sign("(", 3), number("1p0", 4), sign(")", 7)}, 0, api.OK},
		{"c64(1p0,2p0f32)", []lang.Token{word("c64", 0), sign("(", 3), number("1p0", 4), sign(",", 7), number("2p0f32", 8), sign(")", 14)}, 0, api.OK},
		{"<<=", nil, 2, api.ErrSyntax}, {"x. u8", nil, 1, api.ErrSyntax}, {"$x.u8", nil, 2, api.ErrSyntax}, {"@ x", nil, 0, api.ErrSyntax}, {"@1", nil, 0, api.ErrSyntax}, {"x #", nil, 2, api.ErrSyntax}, {"x\n", nil, 1, api.ErrSyntax}, {"x > y", nil, 2, api.ErrSyntax}, {"<\x00", nil, 1, api.ErrSyntax},
		{strings.Repeat(" ", lang.MaxLine) + "#", nil, 0, api.ErrLong}, {strings.Repeat(" ", lang.MaxLine-1) + "#", nil, lang.MaxLine - 1, api.ErrSyntax}, {strings.Repeat(" ", lang.MaxLine-1) + "x", []lang.Token{word("x", lang.MaxLine-1)}, 0, api.OK},
	} {
		if l, place, err := lang.Tokens(x.s); !slices.Equal(l, x.l) || place != x.place || err != x.e {
			t.Errorf("%d %q: %v %v %v", i, x.s, l, place, err)
		}
	}
}

func TestCheckDecls(t *testing.T) {
	many := func(n int) []lang.Decl {
		var out []lang.Decl
		for i := range n {
			out = append(out, lang.Decl{Op: api.ECall + i%3, Name: fmt.Sprint("f", i/3), Kind: i % api.Kinds})
		}
		return out
	}
	f, in, name := lang.Decl{Op: api.ECall, Name: "f"}, lang.Decl{Op: api.EImage, Name: "f", Kind: 10}, strings.Repeat("n", api.MaxName)
	for i, x := range []struct {
		l []lang.Decl
		e api.Errno
	}{
		{nil, api.OK}, {[]lang.Decl{f, in, {Op: api.ELoad, Name: "f"}, {Op: api.EParam, Name: "f"}, {Op: api.ECall, Name: "min"}}, api.OK}, {many(64), api.OK}, {many(65), api.ErrMany}, {append(many(64), f), api.ErrMany},
		{[]lang.Decl{{Op: api.EConst, Name: "f"}}, api.ErrUnknown}, {[]lang.Decl{{Op: api.EVar, Name: "f"}}, api.ErrUnknown}, {[]lang.Decl{{Op: api.EAdd, Name: "f"}}, api.ErrUnknown}, {[]lang.Decl{{Op: -1, Kind: -1}}, api.ErrUnknown}, {[]lang.Decl{{Op: 1 << 40}}, api.ErrUnknown},
		{[]lang.Decl{{Op: api.ECall, Name: "", Kind: 11}}, api.ErrName}, {[]lang.Decl{{Op: api.ECall, Name: name + "n", Kind: 11}}, api.ErrName}, {[]lang.Decl{{Op: api.ECall, Name: name}}, api.OK},
		{[]lang.Decl{f, {Op: api.ECall, Name: "f", Kind: 11}}, api.ErrKind}, {[]lang.Decl{f, {Op: api.ECall, Name: "f", Kind: -1}}, api.ErrKind}, {[]lang.Decl{f, {Op: api.ECall, Name: "f", Kind: 3}}, api.ErrTwice}, {[]lang.Decl{f, in, f}, api.ErrTwice},
		{[]lang.Decl{{Op: api.ECall, Name: "f", Kind: 11}, {Op: 99}}, api.ErrKind}, {[]lang.Decl{f, f, {Op: 99}}, api.ErrTwice},
	} {
		if err := lang.CheckDecls(x.l); err != x.e {
			t.Error("CheckDecls", i, err)
		}
	}
}

// FuzzTokens keeps the promise for texts that nobody thought of.
func FuzzTokens(f *testing.F) {
	f.Add("c64(1p0,-2p-3) -3")
	f.Fuzz(func(t *testing.T, s string) {
		l, place, err := lang.Tokens(s)
		want, wantPlace, wantErr := tokensOf(s)
		if !slices.Equal(l, want) || place != wantPlace || err != wantErr {
			t.Fatalf("%q: %v %v %v, not %v %v %v", s, l, place, err, want, wantPlace, wantErr)
		}
	})
}
