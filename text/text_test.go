package text_test

import (
	"slices"
	"testing"

	"halation/text"
)

func TestWords(t *testing.T) {
	for i, x := range []struct {
		s    string
		want []string
	}{{"a", []string{"a"}}, {"a b  c", nil}, {"ab c", []string{"ab", "c"}}, {"", nil}, {" a", nil}, {"a ", nil}, {" ", nil}, {"a\tb \n", []string{"a\tb", "\n"}}} {
		if l, ok := text.Words(x.s); !slices.Equal(l, x.want) || ok != (x.want != nil) {
			t.Error(i, l, ok)
		}
	}
}

func TestInteger(t *testing.T) {
	for i, x := range []struct {
		s    string
		most int
		want int64
		ok   bool
	}{
		{"0", 8, 0, true}, {"7", 1, 7, true}, {"-1", 1, -1, true}, {"12345678", 8, 12345678, true}, {"-12345678", 8, -12345678, true}, {"10", 2, 10, true}, {"-90", 2, -90, true},
		{"123456789", 8, 0, false}, {"00000001", 8, 0, false}, {"00", 2, 0, false}, {"-0", 8, 0, false}, {"-01", 8, 0, false}, {"", 8, 0, false}, {"-", 8, 0, false}, {"--1", 8, 0, false}, {"+1", 8, 0, false}, {"1 ", 8, 0, false}, {" 1", 8, 0, false}, {"1a", 8, 0, false}, {"1_0", 8, 0, false}, {"٣", 8, 0, false}, {"0x1", 8, 0, false},
		{"9223372036854775807", 19, 1<<63 - 1, true}, {"-9223372036854775808", 19, -1 << 63, true}, {"9223372036854775808", 19, 0, false}, {"-9223372036854775809", 19, 0, false}, {"9223372036854775807", 18, 0, false},
	} {
		if n, ok := text.Integer(x.s, x.most); n != x.want || ok != x.ok {
			t.Error(i, x.s, n, ok)
		}
	}
}

func TestAreDigits(t *testing.T) {
	for s, want := range map[string]bool{"": false, "0": true, "09": true, "9/": false, ":": false, "a": false, "1\xff": false} {
		if text.AreDigits(s) != want {
			t.Error(s)
		}
	}
}
