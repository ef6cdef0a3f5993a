package span_test

import (
	"math/big"
	"math/rand"
	"testing"

	"halation/api"
	"halation/num"
	"halation/span"
)

// Promise P10.2.

// exact is the exact result of two numbers, in the document's words.
func exact(op, x, y int) *big.Int {
	a, b, out := big.NewInt(int64(x)), big.NewInt(int64(y)), new(big.Int)
	switch op {
	case api.EAdd, api.ESatAdd:
		return out.Add(a, b)
	case api.ESub, api.ESatSub:
		return out.Sub(a, b)
	case api.EMul:
		return out.Mul(a, b)
	case api.EDiv, api.EMod:
		if y == 0 {
			return out
		}
		if op == api.EDiv {
			return out.Div(a, b) // Euclidean, as chapter 1 has it
		}
		return out.Mod(a, b)
	case api.EMin, api.EMax:
		if (x < y) == (op == api.EMin) {
			return a
		}
		return b
	case api.EAnd:
		return out.And(a, b)
	case api.EOr:
		return out.Or(a, b)
	case api.EXor:
		return out.Xor(a, b)
	case api.EShl:
		return out.Lsh(a, uint(y))
	case api.EShr:
		return out.Rsh(a, uint(y))
	case api.EAvg:
		return out.Rsh(out.Add(out.Add(a, b), big.NewInt(1)), 1)
	case api.EDist:
		return out.Abs(out.Sub(a, b))
	}
	holds := map[int]bool{api.EEq: x == y, api.ENe: x != y, api.ELt: x < y, api.ELe: x <= y}[op]
	if holds {
		return big.NewInt(1)
	}
	return out
}

// leastOf returns the least span that has all exact results, and whether its ends are ints.
func leastOf(op int, a, b span.Span) (span.Span, bool) {
	var low, high *big.Int
	for x := a.Low; x <= a.High; x++ {
		for y := b.Low; y <= b.High; y++ {
			n := exact(op, x, y)
			if low == nil || n.Cmp(low) < 0 {
				low = n
			}
			if high == nil || n.Cmp(high) > 0 {
				high = n
			}
		}
	}
	return of(int(low.Int64()), int(high.Int64())), low.IsInt64() && high.IsInt64()
}

func isSingle(s span.Span) bool { return s.Low == s.High }

func clamp(n int, s span.Span) int { return min(max(n, s.Low), s.High) }

// oracleApply is Apply for spans of few numbers, and what the document takes instead of the least span.
func oracleApply(op, kind int, a, b span.Span) span.Span {
	to, _ := num.Result(op, kind)
	whole, _ := wholeOf(to)
	width, _ := num.Width(kind)
	switch op {
	case api.EShl, api.EShr:
		for y := b.Low; y <= b.High; y++ {
			if y < 0 || y >= width {
				return whole
			}
		}
	case api.EAnd, api.EOr, api.EXor:
		if isSingle(a) && isSingle(b) {
			break
		}
		if a.Low < 0 || b.Low < 0 {
			return whole
		}
		ones := 0
		for ones < a.High || ones < b.High {
			ones = 2*ones + 1
		}
		switch op {
		case api.EAnd:
			return of(0, min(a.High, b.High))
		case api.EOr:
			return of(max(a.Low, b.Low), ones)
		}
		return of(0, ones)
	case api.EMod:
		quotients := map[string]bool{}
		for x := a.Low; x <= a.High; x++ {
			quotients[exact(api.EDiv, x, b.Low).String()] = true
		}
		if isSingle(b) && b.Low != 0 && len(quotients) == 1 {
			break
		}
		most := 0
		for y := b.Low; y <= b.High; y++ {
			most = max(most, y-1, -y-1)
		}
		if a.Low >= 0 {
			most = min(most, a.High)
		}
		return of(0, most)
	}
	least, isInt := leastOf(op, a, b)
	switch {
	case op == api.ESatAdd || op == api.ESatSub:
		return of(clamp(least.Low, whole), clamp(least.High, whole))
	case !isInt || least.Low < whole.Low || least.High > whole.High:
		return whole
	}
	return least
}

// makeSpan makes a span of a kind with few numbers, often at the ends of the kind or near 0.
func makeSpan(r *rand.Rand, kind int) span.Span {
	whole, _ := wholeOf(kind)
	low := []int{whole.Low, whole.High, 0, 1, -1, r.Intn(40) - 20, whole.Low + r.Intn(whole.High-whole.Low+1), 1 << r.Intn(32)}[r.Intn(8)]
	low = clamp(low-r.Intn(3), whole)
	return of(low, clamp(low+[]int{0, 0, 1, 3, 9, 20}[r.Intn(6)], whole))
}

// makeWide makes any span of a kind.
func makeWide(r *rand.Rand, kind int) span.Span {
	if r.Intn(3) == 0 {
		return makeSpan(r, kind)
	}
	a, b := makeSpan(r, kind), makeSpan(r, kind)
	return of(min(a.Low, b.Low), max(a.High, b.High))
}

func TestApply(t *testing.T) {
	r := rand.New(rand.NewSource(1))
	for op := api.EAdd; op <= api.ELe; op++ {
		for _, w := range smallKinds {
			if _, err := num.Result(op, w.kind); err != api.OK {
				continue
			}
			for range 250 {
				a, b := makeSpan(r, w.kind), makeSpan(r, w.kind)
				want := oracleApply(op, w.kind, a, b)
				if s, err := span.Apply(op, w.kind, a, b); s != want || err != api.OK {
					t.Fatal("Apply", op, w.kind, a, b, s, err, want)
				}
			}
		}
	}
}

// TestApplyAll goes through all spans of few numbers near 0, where signs change.
func TestApplyAll(t *testing.T) {
	for op := api.EAdd; op <= api.ELe; op++ {
		for n := range 7 * 7 * 7 * 7 {
			a, b := of(n%7-3, n/7%7-3), of(n/49%7-3, n/343-3)
			if a.Low > a.High || b.Low > b.High {
				continue
			}
			want := oracleApply(op, api.I16, a, b)
			if s, err := span.Apply(op, api.I16, a, b); s != want || err != api.OK {
				t.Fatal("Apply", op, a, b, s, err, want)
			}
		}
	}
}

func TestApplyByHand(t *testing.T) {
	i32, u32 := of(-2147483648, 2147483647), of(0, 4294967295)
	for i, c := range []struct {
		op, kind   int
		a, b, want span.Span
	}{
		{api.EMul, api.U32, u32, u32, u32},
		{api.EMul, api.U32, of(65536, 65536), of(65535, 65535), of(4294901760, 4294901760)},
		{api.EMul, api.U32, of(65536, 65536), of(65536, 65536), u32},
		{api.EMul, api.I32, i32, i32, i32},
		{api.EMul, api.I32, of(-46340, 46340), of(-46340, 46340), of(-2147395600, 2147395600)},
		{api.EDiv, api.I32, of(-2147483648, 0), of(-1, 1), i32},
		{api.EDiv, api.I32, of(-2147483647, 0), of(-1, 1), of(-2147483647, 2147483647)},
		{api.EDiv, api.I32, of(-7, 9), of(-2, 3), of(-9, 9)},
		{api.EDiv, api.I32, of(-7, -7), of(2, 2), of(-4, -4)},
		{api.EDiv, api.I32, of(-7, -7), of(-2, -2), of(4, 4)},
		{api.EDiv, api.I32, of(5, 9), of(0, 3), of(0, 9)},
		{api.EMod, api.I32, of(13, 17), of(10, 10), of(3, 7)},
		{api.EMod, api.I32, of(13, 21), of(10, 10), of(0, 9)},
		{api.EMod, api.I32, of(-17, -13), of(-10, -10), of(3, 7)},
		{api.EMod, api.I32, of(3, 5), of(-4, 9), of(0, 5)},
		{api.EMod, api.I32, i32, i32, of(0, 2147483647)},
		{api.EMod, api.U32, u32, u32, of(0, 4294967294)},
		{api.EAnd, api.U32, u32, of(5, 5), of(0, 5)},
		{api.EOr, api.U32, of(0, 0), of(0, 4), of(0, 7)},
		{api.EXor, api.I32, of(0, 2147483647), of(1, 1), of(0, 2147483647)},
		{api.EXor, api.Bool, of(0, 0), of(0, 1), of(0, 1)},
		{api.EShl, api.U32, u32, of(0, 31), u32},
		{api.EShl, api.U32, of(1, 1), of(31, 31), of(2147483648, 2147483648)},
		{api.EShl, api.U32, of(0, 0), of(32, 32), u32},
		{api.EShr, api.U32, u32, of(31, 31), of(0, 1)},
		{api.EShr, api.I32, i32, of(0, 31), i32},
		{api.EShr, api.I32, i32, of(31, 31), of(-1, 0)},
		{api.ESatAdd, api.I32, i32, of(1, 1), of(-2147483647, 2147483647)},
		{api.ESatSub, api.U32, u32, of(1, 4), of(0, 4294967294)},
		{api.EAvg, api.I32, i32, i32, i32},
		{api.EAvg, api.U32, u32, of(4294967295, 4294967295), of(2147483648, 4294967295)},
		{api.EDist, api.I32, i32, i32, u32},
		{api.EDist, api.I32, of(-2147483648, -2147483648), of(2147483647, 2147483647), of(4294967295, 4294967295)},
		{api.EEq, api.I32, i32, i32, of(0, 1)},
		{api.EEq, api.Bool, of(1, 1), of(1, 1), of(1, 1)},
		{api.ENe, api.Bool, of(0, 0), of(1, 1), of(1, 1)},
		{api.ELt, api.I32, i32, of(-2147483648, -2147483648), of(0, 0)},
		{api.ELe, api.I32, of(-2147483648, -2147483648), i32, of(1, 1)},
	} {
		if s, err := span.Apply(c.op, c.kind, c.a, c.b); s != c.want || err != api.OK {
			t.Error("Apply", i, s, err, c.want)
		}
	}
}

func TestApplyErrors(t *testing.T) {
	wrong := []span.Span{of(0, 1), of(1, 0), of(0, far), of(-far, 0), of(far, -far)}
	for op := -2; op <= api.Ops+1; op++ {
		for kind := -1; kind <= api.Kinds; kind++ {
			for _, a := range wrong {
				for _, b := range wrong {
					want := errorOfApply(op, kind, a, b)
					s, err := span.Apply(op, kind, a, b)
					if err != want || err != api.OK && s != of(0, 0) {
						t.Fatal("Apply", op, kind, a, b, s, err, want)
					}
				}
			}
		}
	}
}

// errorOfApply is the error of Apply in the document's words, for spans of which just 0 to 1 is one of a kind.
func errorOfApply(op, kind int, a, b span.Span) api.Errno {
	if op < api.EAdd || op > api.ELe {
		return api.ErrUnknown
	}
	if kind < 0 || kind >= api.Kinds {
		return api.ErrKind
	}
	if _, small := wholeOf(kind); !small {
		return api.ErrType
	}
	bits := op >= api.EAnd && op <= api.EXor || op == api.EEq || op == api.ENe
	if kind == api.Bool && !bits {
		return api.ErrType
	}
	for _, s := range []span.Span{a, b} {
		if s.Low > s.High {
			return api.ErrOrder
		}
		if s != of(0, 1) {
			return api.ErrRange
		}
	}
	return api.OK
}

func TestNot(t *testing.T) {
	r := rand.New(rand.NewSource(2))
	for _, w := range smallKinds {
		for range 300 {
			a := makeWide(r, w.kind)
			var ends []int
			for _, end := range []int{a.High, a.Low} {
				v, _ := num.Wrap(w.kind, int64(end))
				v, _ = num.Not(v)
				n, _ := num.Int(v)
				ends = append(ends, int(n))
			}
			if s, err := span.Not(w.kind, a); s != of(ends[0], ends[1]) || err != api.OK {
				t.Fatal("Not", w.kind, a, s, err, ends)
			}
		}
		for _, c := range []struct {
			s   span.Span
			err api.Errno
		}{{of(1, 0), api.ErrOrder}, {of(w.span.Low, w.span.High+1), api.ErrRange}} {
			if s, err := span.Not(w.kind, c.s); s != of(0, 0) || err != c.err {
				t.Error("Not", w.kind, c.s, s, err)
			}
		}
	}
	for kind, want := range map[int]api.Errno{-1: api.ErrKind, api.U64: api.ErrType, api.I64: api.ErrType, api.F32: api.ErrType, api.C64: api.ErrType, api.Kinds: api.ErrKind} {
		if s, err := span.Not(kind, of(1, 0)); s != of(0, 0) || err != want {
			t.Error("Not", kind, s, err)
		}
	}
}

// oracleConvert is Convert in the document's words.
func oracleConvert(op, to int, a span.Span) span.Span {
	whole, _ := wholeOf(to)
	if op == api.ESat {
		return of(clamp(a.Low, whole), clamp(a.High, whole))
	}
	if to == api.Bool {
		switch {
		case a == of(0, 0):
			return of(0, 0)
		case a.Low > 0 || a.High < 0:
			return of(1, 1)
		}
		return of(0, 1)
	}
	width, _ := num.Width(to)
	low := new(big.Int).Sub(big.NewInt(int64(a.Low)), big.NewInt(int64(whole.Low)))
	steps := new(big.Int).Div(low, new(big.Int).Lsh(big.NewInt(1), uint(width))).Int64()
	out := of(a.Low-int(steps)<<width, a.High-int(steps)<<width)
	if out.High > whole.High {
		return whole
	}
	return out
}

func TestConvert(t *testing.T) {
	r := rand.New(rand.NewSource(3))
	for _, from := range smallKinds {
		for _, to := range smallKinds {
			for _, op := range []int{api.ECast, api.ESat} {
				if op == api.ESat && (from.kind == api.Bool || to.kind == api.Bool) {
					if s, err := span.Convert(op, from.kind, to.kind, of(1, 0)); s != of(0, 0) || err != api.ErrType {
						t.Error("Convert", op, from, to, s, err)
					}
					continue
				}
				for range 200 {
					a := makeWide(r, from.kind)
					want := oracleConvert(op, to.kind, a)
					if s, err := span.Convert(op, from.kind, to.kind, a); s != want || err != api.OK {
						t.Fatal("Convert", op, from, to, a, s, err, want)
					}
				}
				for _, c := range []struct {
					s   span.Span
					err api.Errno
				}{{of(1, 0), api.ErrOrder}, {of(from.span.Low-1, from.span.High), api.ErrRange}} {
					if s, err := span.Convert(op, from.kind, to.kind, c.s); s != of(0, 0) || err != c.err {
						t.Error("Convert", op, from, to, s, err)
					}
				}
			}
		}
	}
}

func TestConvertErrors(t *testing.T) {
	for i, c := range []struct {
		op, from, to int
		err          api.Errno
	}{
		{api.ENot, -1, -1, api.ErrUnknown},
		{api.ESelect, api.U8, api.U8, api.ErrUnknown},
		{-1, api.U8, api.U8, api.ErrUnknown},
		{api.ECast, -1, api.U64, api.ErrKind},
		{api.ECast, api.U64, -1, api.ErrType},
		{api.ECast, api.U8, api.Kinds, api.ErrKind},
		{api.ECast, api.U8, api.F32, api.ErrType},
		{api.ESat, api.Bool, api.I64, api.ErrType},
		{api.ESat, api.F32, api.U8, api.ErrType},
		{api.ESat, api.Bool, api.Kinds, api.ErrKind},
		{api.ESat, api.Bool, api.U8, api.ErrType},
		{api.ESat, api.U8, api.Bool, api.ErrType},
		{api.ECast, api.U8, api.Bool, api.ErrOrder},
	} {
		if s, err := span.Convert(c.op, c.from, c.to, of(1, 0)); s != of(0, 0) || err != c.err {
			t.Error("Convert", i, s, err, c.err)
		}
	}
}

func TestConvertByHand(t *testing.T) {
	for i, c := range []struct {
		op, from, to int
		a, want      span.Span
	}{
		{api.ECast, api.I16, api.U8, of(300, 310), of(44, 54)},
		{api.ECast, api.I16, api.U8, of(250, 260), of(0, 255)},
		{api.ECast, api.I16, api.U8, of(256, 511), of(0, 255)},
		{api.ECast, api.I16, api.U8, of(-512, -257), of(0, 255)},
		{api.ECast, api.I16, api.I8, of(-129, -129), of(127, 127)},
		{api.ECast, api.I16, api.I8, of(-129, -128), of(-128, 127)},
		{api.ECast, api.U32, api.I32, of(4294967295, 4294967295), of(-1, -1)},
		{api.ECast, api.U32, api.I32, of(0, 2147483648), of(-2147483648, 2147483647)},
		{api.ECast, api.I32, api.U32, of(-2147483648, -1), of(2147483648, 4294967295)},
		{api.ECast, api.I32, api.U32, of(-1, 0), of(0, 4294967295)},
		{api.ECast, api.I8, api.Bool, of(-1, 0), of(0, 1)},
		{api.ECast, api.I8, api.Bool, of(0, 0), of(0, 0)},
		{api.ECast, api.Bool, api.Bool, of(1, 1), of(1, 1)},
		{api.ECast, api.Bool, api.I8, of(0, 1), of(0, 1)},
		{api.ESat, api.I16, api.U8, of(250, 260), of(250, 255)},
		{api.ESat, api.I16, api.U8, of(-9, -3), of(0, 0)},
		{api.ESat, api.U32, api.I32, of(5, 4294967295), of(5, 2147483647)},
	} {
		if s, err := span.Convert(c.op, c.from, c.to, c.a); s != c.want || err != api.OK {
			t.Error("Convert", i, s, err, c.want)
		}
	}
}

// Promise P10.4, for operations.

// within returns some number of a span.
func within(r *rand.Rand, s span.Span) int {
	switch r.Intn(4) {
	case 0:
		return s.Low
	case 1:
		return s.High
	}
	return s.Low + r.Intn(s.High-s.Low+1)
}

func valueOf(kind, n int) api.Value {
	v, _ := num.Wrap(kind, int64(n))
	return v
}

func has(s span.Span, v api.Value) bool {
	n, err := num.Int(v)
	return err == api.OK && int(n) >= s.Low && int(n) <= s.High
}

func contains(s, t span.Span) bool { return s.Low <= t.Low && t.High <= s.High }

func TestResultsAreInSpans(t *testing.T) {
	r := rand.New(rand.NewSource(4))
	for op := api.EAdd; op <= api.ELe; op++ {
		for _, w := range smallKinds {
			if _, err := num.Result(op, w.kind); err != api.OK {
				continue
			}
			for range 150 {
				a, b := makeWide(r, w.kind), makeWide(r, w.kind)
				s, err := span.Apply(op, w.kind, a, b)
				if err != api.OK {
					t.Fatal("Apply", op, w.kind, a, b, err)
				}
				for range 12 {
					v, err := num.Apply(op, valueOf(w.kind, within(r, a)), valueOf(w.kind, within(r, b)))
					if err != api.OK || !has(s, v) {
						t.Fatal("a result is not in the span", op, w.kind, a, b, s, v)
					}
				}
				wider, other := widened(r, w, a), widened(r, w, b)
				if u, _ := span.Apply(op, w.kind, wider, other); !contains(u, s) {
					t.Fatal("wider spans, but not a wider one", op, w.kind, a, b, s, wider, other, u)
				}
			}
		}
	}
}

// widened returns a span of a kind that has all numbers of another one.
func widened(r *rand.Rand, w wholes, s span.Span) span.Span {
	more := makeWide(r, w.kind)
	switch r.Intn(3) {
	case 0:
		return s
	case 1:
		return of(max(w.span.Low, s.Low-r.Intn(4)), min(w.span.High, s.High+r.Intn(4)))
	}
	return of(min(s.Low, more.Low), max(s.High, more.High))
}

func TestConvertedAreInSpans(t *testing.T) {
	r := rand.New(rand.NewSource(5))
	for _, from := range smallKinds {
		for _, to := range smallKinds {
			for _, op := range []int{api.ECast, api.ESat} {
				for range 60 {
					a := makeWide(r, from.kind)
					s, err := span.Convert(op, from.kind, to.kind, a)
					if err != api.OK { // ESat, and Bool
						continue
					}
					for range 10 {
						v := valueOf(from.kind, within(r, a))
						if op == api.ECast {
							v, err = num.Cast(to.kind, v)
						} else {
							v, err = num.Sat(to.kind, v)
						}
						if err != api.OK || !has(s, v) {
							t.Fatal("a value is not in the span", op, from, to, a, s, v)
						}
					}
					if u, _ := span.Convert(op, from.kind, to.kind, widened(r, from, a)); !contains(u, s) {
						t.Fatal("a wider span, but not a wider one", op, from, to, a, s, u)
					}
				}
			}
		}
	}
}
