package span_test

import (
	"fmt"
	"math"
	"slices"
	"testing"

	"halation/api"
	"halation/span"
)

const far = 1 << 40

type wholes struct {
	kind int
	span span.Span
}

// smallKinds have the numbers that chapter 1 says.
var smallKinds = []wholes{
	{api.Bool, span.Span{Low: 0, High: 1}},
	{api.U8, span.Span{Low: 0, High: 255}},
	{api.U16, span.Span{Low: 0, High: 65535}},
	{api.U32, span.Span{Low: 0, High: 4294967295}},
	{api.I8, span.Span{Low: -128, High: 127}},
	{api.I16, span.Span{Low: -32768, High: 32767}},
	{api.I32, span.Span{Low: -2147483648, High: 2147483647}},
}

func wholeOf(kind int) (span.Span, bool) {
	at := slices.IndexFunc(smallKinds, func(w wholes) bool { return w.kind == kind })
	if at < 0 {
		return span.Span{}, false
	}
	return smallKinds[at].span, true
}

func of(low, high int) span.Span { return span.Span{Low: low, High: high} }

// Promise P10.1.

func TestKinds(t *testing.T) {
	for kind := -2; kind < api.Kinds+2; kind++ {
		want, small := wholeOf(kind)
		wantErr := api.OK
		switch {
		case kind < 0 || kind >= api.Kinds:
			wantErr = api.ErrKind
		case !small:
			wantErr = api.ErrType
		}
		whole, err := span.Whole(kind)
		if whole != want || err != wantErr || span.IsSmall(kind) != small {
			t.Error("kind", kind, whole, err, span.IsSmall(kind))
		}
		if err := span.Check(kind, of(1, 0)); small && err != api.ErrOrder || !small && err != wantErr {
			t.Error("Check of an empty span", kind, err)
		}
		if !small {
			continue
		}
		for _, c := range []struct {
			s   span.Span
			err api.Errno
		}{
			{want, api.OK},
			{of(want.Low, want.Low), api.OK},
			{of(want.High, want.High), api.OK},
			{of(want.Low-1, want.High), api.ErrRange},
			{of(want.Low, want.High+1), api.ErrRange},
			{of(want.High+1, want.High+1), api.ErrRange},
			{of(want.High+2, want.High+1), api.ErrOrder},
			{of(math.MinInt, math.MaxInt), api.ErrRange},
			{of(math.MaxInt, math.MinInt), api.ErrOrder},
		} {
			if err := span.Check(kind, c.s); err != c.err {
				t.Error("Check", kind, c.s, err, c.err)
			}
		}
	}
}

func TestCheckKnown(t *testing.T) {
	good := func(op int, name string) span.Known { return span.Known{Op: op, Name: name, Span: of(-3, 4)} }
	var many []span.Known
	for i := range api.MaxNodes + 1 {
		many = append(many, good(api.EVar, fmt.Sprint("x", i)))
	}
	far1 := good(api.EVar, "x")
	far1.Span = of(-far, far)
	for i, c := range []struct {
		l   []span.Known
		err api.Errno
	}{
		{nil, api.OK},
		{many[1:], api.OK},
		{many, api.ErrMany},
		{append(slices.Clone(many), span.Known{Op: api.EAdd}), api.ErrMany},
		{[]span.Known{good(api.EVar, "x"), good(api.EParam, "x"), good(api.ECall, "x"), good(api.EImage, "x"), good(api.ELoad, "x")}, api.OK},
		{[]span.Known{good(api.EConst, "x")}, api.ErrKind},
		{[]span.Known{good(api.EAdd, "x")}, api.ErrKind},
		{[]span.Known{good(-1, "9")}, api.ErrKind},
		{[]span.Known{good(api.Ops, "x")}, api.ErrKind},
		{[]span.Known{{Op: api.EVar, Name: "", Span: of(1, 0)}}, api.ErrName},
		{[]span.Known{good(api.EVar, "a b")}, api.ErrName},
		{[]span.Known{{Op: api.EVar, Name: "x", Span: of(far+2, far+1)}}, api.ErrOrder},
		{[]span.Known{{Op: api.EVar, Name: "x", Span: of(-far-1, 0)}}, api.ErrRange},
		{[]span.Known{{Op: api.EVar, Name: "x", Span: of(0, far+1)}}, api.ErrRange},
		{[]span.Known{far1}, api.OK},
		{[]span.Known{far1, good(api.EVar, "y"), good(api.EVar, "x")}, api.ErrTwice},
		{[]span.Known{far1, {Op: api.EVar, Name: "x", Span: of(1, 0)}}, api.ErrOrder},
		{[]span.Known{far1, far1, good(api.EAdd, "x")}, api.ErrTwice},
		{[]span.Known{far1, good(api.EAdd, "x"), far1}, api.ErrKind},
	} {
		if err := span.CheckKnown(c.l); err != c.err {
			t.Error("CheckKnown", i, err, c.err)
		}
	}
}

// oracleFree is the error of a span that is of no kind, in the document's words.
func oracleFree(s span.Span) api.Errno {
	if s.Low > s.High {
		return api.ErrOrder
	}
	for _, end := range []int{s.Low, s.High} {
		if end < -far || end > far {
			return api.ErrRange
		}
	}
	return api.OK
}

func TestTwoSpans(t *testing.T) {
	ends := []int{math.MinInt, -far - 1, -far, -7, -1, 0, 1, 2, 9, far - 1, far, far + 1, math.MaxInt}
	var all []span.Span
	for _, low := range ends {
		for _, high := range ends {
			all = append(all, of(low, high))
		}
	}
	for _, a := range all {
		n, err := span.Points(a)
		wantErr := oracleFree(a)
		if err != wantErr || wantErr == api.OK && n != a.High-a.Low+1 || wantErr != api.OK && n != 0 {
			t.Error("Points", a, n, err)
		}
		for _, b := range all {
			twoSpans(t, a, b)
		}
	}
}

func twoSpans(t *testing.T, a, b span.Span) {
	t.Helper()
	wantErr := oracleFree(a)
	if wantErr == api.OK {
		wantErr = oracleFree(b)
	}
	hull, err := span.Hull(a, b)
	both, is, err2 := span.Meet(a, b)
	if err != wantErr || err2 != wantErr {
		t.Fatal("errors of two", a, b, err, err2, wantErr)
	}
	if err != api.OK {
		if hull != of(0, 0) || both != of(0, 0) || is {
			t.Fatal("results beside an error", a, b, hull, both, is)
		}
		return
	}
	if hull != of(min(a.Low, b.Low), max(a.High, b.High)) {
		t.Fatal("Hull", a, b, hull)
	}
	isCommon := func(n int) bool { return n >= a.Low && n <= a.High && n >= b.Low && n <= b.High }
	switch {
	case !is && (both != of(0, 0) || isCommon(a.Low) || isCommon(b.Low)):
		t.Fatal("Meet of spans that have nothing in common", a, b, both)
	case is && !(isCommon(both.Low) && isCommon(both.High) && !isCommon(both.Low-1) && !isCommon(both.High+1) && both.Low <= both.High):
		t.Fatal("Meet", a, b, both)
	}
}

func TestPartsByHand(t *testing.T) {
	n, err := span.Points(of(-2, 4))
	if n != 7 || err != api.OK {
		t.Error("Points", n, err)
	}
	n, err = span.Points(of(-far, far))
	if n != 2*far+1 || err != api.OK {
		t.Error("Points of the greatest span", n, err)
	}
	s, is, err := span.Meet(of(0, 3), of(3, 9))
	if s != of(3, 3) || !is || err != api.OK {
		t.Error("Meet", s, is, err)
	}
	s, is, err = span.Meet(of(5, 6), of(7, 9))
	if s != of(0, 0) || is || err != api.OK {
		t.Error("Meet of neighbours", s, is, err)
	}
}
