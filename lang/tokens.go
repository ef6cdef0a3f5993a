package lang

import (
	"iter"
	"slices"
	"strings"

	"halation/api"
)

// nothing is the kind of what stands behind the last token.
const nothing = -1

// lexer is a text of which the bytes before at have been read.
type lexer struct {
	text     string
	at       int
	negative bool // a - would belong to the number behind it
}

// Tokens returns the tokens of a text, or the place of the first byte that begins none.
func Tokens(s string) ([]Token, int, api.Errno) {
	if len(s) > MaxLine {
		return nil, 0, api.ErrLong
	}
	l := lexer{text: s, negative: true}
	tokens := slices.Collect(visited(l.next))
	if l.at < len(s) {
		return nil, l.at, api.ErrSyntax
	}
	return tokens, 0, api.OK
}

// visited visits what a function returns, until it returns no more.
func visited(next func() (Token, bool)) iter.Seq[Token] {
	return func(yield func(Token) bool) {
		for t, ok := next(); ok && yield(t); t, ok = next() {
		}
	}
}

// next reads spaces and a token. If there is none, the place is where it should begin.
func (l *lexer) next() (Token, bool) {
	rest := strings.TrimLeft(l.text[l.at:], " ")
	l.at = len(l.text) - len(rest)
	t, size := tokenAt(rest, l.negative)
	if size == 0 {
		return Token{}, false
	}
	t.At = l.at
	l.at += size
	l.negative = t.Kind == ASign && !t.closes()
	return t, true
}

// tokenAt returns the token at the start of a text, and how many bytes it has, 0 if there is none.
func tokenAt(s string, negative bool) (Token, int) {
	if size := numberSize(s, negative); size > 0 {
		return Token{Kind: ANumber, Text: s[:size]}, size
	}
	if t, size := wordAt(s); size > 0 {
		return t, size
	}
	sign := signAt(s)
	return Token{Kind: ASign, Text: sign}, len(sign)
}

// wordAt returns the token of a word, with what stands in front of it and its suffix, and how many bytes it has.
func wordAt(s string) (Token, int) {
	kind, start := AWord, 0
	switch {
	case strings.HasPrefix(s, "@"):
		kind, start = AParam, 1
	case strings.HasPrefix(s, "$"):
		kind, start = AVar, 1
	}
	size := wordSize(s[start:])
	if size == 0 {
		return Token{}, 0
	}
	end := start + size
	t := Token{Kind: kind, Text: s[start:end]}
	if rest, ok := strings.CutPrefix(s[end:], "."); ok && kind != AVar {
		if size := wordSize(rest); size > 0 {
			t.Suffix = rest[:size]
			end += 1 + size
		}
	}
	return t, end
}

// The functions below return how many bytes something at the start of a text has, 0 if it is not there.

func numberSize(s string, negative bool) int {
	if size := complexSize(s); size > 0 {
		return size
	}
	size := 0
	if negative {
		size = minusSize(s)
	}
	digits := spanSize(s[size:], isDigit)
	if digits == 0 {
		return 0
	}
	size += digits
	size += powerSize(s[size:])
	return size + spanSize(s[size:], isWordPart)
}

func complexSize(s string) int {
	const start = "c64("
	if !strings.HasPrefix(s, start) {
		return 0
	}
	size := len(start)
	for _, end := range []string{",", ")"} {
		part := partSize(s[size:])
		if part == 0 || !strings.HasPrefix(s[size+part:], end) {
			return 0
		}
		size += part + len(end)
	}
	return size
}

func partSize(s string) int {
	size := minusSize(s)
	digits := spanSize(s[size:], isDigit)
	size += digits
	power := powerSize(s[size:])
	if digits == 0 || power == 0 {
		return 0
	}
	return size + power
}

func powerSize(s string) int {
	if !strings.HasPrefix(s, "p") {
		return 0
	}
	size := 1 + minusSize(s[1:])
	digits := spanSize(s[size:], isDigit)
	if digits == 0 {
		return 0
	}
	return size + digits
}

func minusSize(s string) int {
	if strings.HasPrefix(s, "-") {
		return 1
	}
	return 0
}

func wordSize(s string) int {
	if spanSize(s, isDigit) > 0 {
		return 0
	}
	return spanSize(s, isWordPart)
}

// spanSize counts the bytes before the first rune that is not one of those in question.
func spanSize(s string, in func(rune) bool) int {
	for i, r := range s {
		if !in(r) {
			return i
		}
	}
	return len(s)
}

func isDigit(r rune) bool {
	return '0' <= r && r <= '9'
}

func isWordPart(r rune) bool {
	return 'a' <= r && r <= 'z' || 'A' <= r && r <= 'Z' || r == '_' || isDigit(r)
}

// is reports whether a token is a sign.
func (t Token) is(sign string) bool {
	return t.Kind == ASign && t.Text == sign
}

// isWord reports whether a token has a word.
func (t Token) isWord() bool {
	return t.Kind == AWord || t.Kind == AParam || t.Kind == AVar
}

func (t Token) closes() bool {
	return t.is(")") || t.is("]") || t.is("}")
}

// isCount reports whether a token can say how many lanes there are, or which one is picked.
func (t Token) isCount() bool {
	const most = 3
	return t.Kind == ANumber && len(t.Text) <= most && spanSize(t.Text, isDigit) == len(t.Text)
}

// isEnd reports whether a token stands for the end of the text.
func (t Token) isEnd() bool {
	return t.Kind == nothing
}
