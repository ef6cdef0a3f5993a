package affine_test

import (
	"fmt"
	"math/big"
	"math/rand"
	"testing"

	"halation/affine"
	"halation/api"
	"halation/expr"
	"halation/num"
	"halation/span"
)

// Promise P11.3.

func TestRangeByHand(t *testing.T) {
	l := []span.Known{known(api.EVar, "x", 0, 9), known(api.EVar, "y", 2, 5), known(api.EVar, "one", 1, 1), known(api.EParam, "x", -4, -2), known(api.EVar, "top", 2147483647, 2147483647)}
	is := func(low, high int) span.Fact { return span.Fact{Is: true, Span: span.Span{Low: low, High: high}} }
	for i, c := range []struct {
		f    affine.Form
		want span.Fact
	}{
		{formOf(t, 6, 3, "x", -1, "y"), is(1, 31)},
		{formOf(t, 2, 1, "x"), is(2, 11)},
		{formOf(t, -4), is(-4, -4)},
		{formOf(t, 0, -2, "@x.i32"), is(4, 8)},
		{formOf(t, 0, 1, "x / 3", -1, "x * y"), is(-45, 3)},
		{formOf(t, 0, 1, "z"), is(-2147483648, 2147483647)},
		{formOf(t, 1, 1, "z"), span.Fact{}},
		{formOf(t, 0, -1, "z"), span.Fact{}},
		{formOf(t, 0, 2, "z"), span.Fact{}},
		{formOf(t, 0, 1, "x", 1, "z"), span.Fact{}},
		{formOf(t, 2147483647, 1, "one"), span.Fact{}},
		{formOf(t, 2147483646, 1, "one"), is(2147483647, 2147483647)},
		{formOf(t, -2147483648, -1, "one"), span.Fact{}},
		{formOf(t, -2147483647, -1, "one"), is(-2147483648, -2147483648)},
		{formOf(t, 0, 1, "top", 1, "top / 1", -1, "top * one"), is(2147483647, 2147483647)},
	} {
		if f, err := affine.Range(c.f, l); f != c.want || err != api.OK {
			t.Error("Range", i, text(c.f), f, err)
		}
	}
}

// TestRangeOfLargeTerms adds products that together are far beyond an int.
func TestRangeOfLargeTerms(t *testing.T) {
	var f affine.Form
	var l []span.Known
	total := new(big.Int)
	for i := range affine.MaxTerms {
		name := fmt.Sprintf("v%02d", i)
		atom, _ := expr.Var(name)
		c, n := -1<<31, -1<<31
		if i >= affine.MaxTerms/2 {
			n = 1<<31 - 1
		}
		f.Terms = append(f.Terms, affine.Term{Coeff: c, Atom: atom})
		l = append(l, known(api.EVar, name, n, n))
		total.Add(total, new(big.Int).Mul(big.NewInt(int64(c)), big.NewInt(int64(n))))
	}
	// 16 times 2^31 are left.
	if total.Cmp(big.NewInt(16<<31)) != 0 {
		t.Fatal("total", total)
	}
	if fact, err := affine.Range(f, l); fact != (span.Fact{}) || err != api.OK {
		t.Error("Range beyond I32", fact, err)
	}
	f.Terms[0].Coeff += 16
	f.Const = -1
	if fact, err := affine.Range(f, l); fact != (span.Fact{Is: true, Span: span.Span{Low: -1, High: -1}}) || err != api.OK {
		t.Error("Range", fact, err)
	}
	for i := range f.Terms { // 2^67
		l[i] = known(api.EVar, l[i].Name, -1<<31, -1<<31)
	}
	if fact, err := affine.Range(f, l); fact != (span.Fact{}) || err != api.OK {
		t.Error("Range far beyond an int", fact, err)
	}
}

// oracleRange is Range in the document's words.
func oracleRange(f affine.Form, l []span.Known) span.Fact {
	low, high := big.NewInt(int64(f.Const)), big.NewInt(int64(f.Const))
	for _, term := range f.Terms {
		fact, _ := span.Of(term.Atom, l)
		a := new(big.Int).Mul(big.NewInt(int64(term.Coeff)), big.NewInt(int64(fact.Span.Low)))
		b := new(big.Int).Mul(big.NewInt(int64(term.Coeff)), big.NewInt(int64(fact.Span.High)))
		if a.Cmp(b) > 0 {
			a, b = b, a
		}
		low.Add(low, a)
		high.Add(high, b)
	}
	for _, end := range []*big.Int{low, high} {
		if end.Cmp(big.NewInt(-1<<31)) < 0 || end.Cmp(big.NewInt(1<<31-1)) > 0 {
			return span.Fact{}
		}
	}
	return span.Fact{Is: true, Span: span.Span{Low: int(low.Int64()), High: int(high.Int64())}}
}

func makeKnown(r *rand.Rand) []span.Known {
	var l []span.Known
	for _, name := range []string{"x", "y", "z", "xx"} {
		low := []int{r.Intn(20) - 10, r.Intn(1<<32) - 1<<31}[r.Intn(2)]
		if r.Intn(8) > 0 {
			l = append(l, known(api.EVar, name, low, low+r.Intn(30)))
		}
	}
	return append(l, known(api.EParam, "p", 3, 8))
}

func TestRange(t *testing.T) {
	r := rand.New(rand.NewSource(21))
	seen := map[bool]int{}
	for i := range 2000 {
		f, l := makeForm(t, r), makeKnown(r)
		fact, err := affine.Range(f, l)
		if want := oracleRange(f, l); fact != want || err != api.OK {
			t.Fatal("Range", i, text(f), l, fact, err, want)
		}
		seen[fact.Is]++
	}
	if seen[true] < 200 || seen[false] < 200 {
		t.Error("rare", seen)
	}
}

func TestValueByHand(t *testing.T) {
	i32 := func(name string, n int64) expr.Binding {
		v, _ := num.Wrap(api.I32, n)
		return expr.Binding{Name: name, Value: v}
	}
	l := []expr.Binding{i32("x", 5), i32("y", -1)}
	for i, c := range []struct {
		f    affine.Form
		l    []expr.Binding
		want int
		err  api.Errno
	}{
		{formOf(t, 6, 3, "x", -1, "y"), l, 22, api.OK},
		{formOf(t, 2147483647, 1, "x"), l, -2147483644, api.OK},
		{formOf(t, -2147483648, 1, "y"), l, 2147483647, api.OK},
		{formOf(t, 0, -2147483648, "y"), l, -2147483648, api.OK},
		{formOf(t, 0, 3, "x / 2", 65536, "x * x * x"), l, 65536*125 + 6, api.OK},
		{formOf(t, 9), []expr.Binding{{}, {}}, 9, api.OK}, // the bindings are asked by the atoms
		{formOf(t, 9, 1, "z"), l, 0, api.ErrUnknown},
		{formOf(t, 9, 1, "x", 1, "z", 1, "f.i32(x)"), l, 0, api.ErrUnknown},
		{formOf(t, 9, 1, "x", 1, "f.i32(x)", 1, "z / 2"), l, 0, api.ErrKind},
		{formOf(t, 9, 1, "x"), append(l, i32("x", 1)), 0, api.ErrTwice},
		{formOf(t, 9, 1, "x"), []expr.Binding{{Name: "9"}}, 0, api.ErrName},
		{formOf(t, 9, 1, "x"), []expr.Binding{{Name: "x", Value: api.Value{Kind: api.U8, Bits: 3}}}, 0, api.ErrType},
		{formOf(t, 9, 1, "x"), []expr.Binding{{Name: "x", Value: api.Value{Kind: api.U8, Bits: 300}}}, 0, api.ErrForm},
		{formOf(t, 9, 1, "x"), make([]expr.Binding, 65), 0, api.ErrMany},
		{formOf(t, 1<<31, 1, "z"), l, 0, api.ErrRange},
	} {
		if n, err := affine.Value(c.f, c.l); n != c.want || err != c.err {
			t.Error("Value", i, n, err, c.want, c.err)
		}
	}
}

func TestRangeErrors(t *testing.T) {
	f := formOf(t, 6, 3, "x", -1, "y")
	wrong := []span.Known{known(api.EAdd, "x", 1, 0)}
	for i, c := range []struct {
		f   affine.Form
		l   []span.Known
		err api.Errno
	}{
		{affine.Form{Terms: []affine.Term{{}}}, wrong, api.ErrForm},
		{f, wrong, api.ErrKind},
		{formOf(t, 4), wrong, api.ErrKind},
		{f, []span.Known{known(api.EVar, "x", 1, 0)}, api.ErrOrder},
		{f, make([]span.Known, 257), api.ErrMany},
		{f, []span.Known{known(api.EVar, "x", 1, 1), known(api.EVar, "x", 1, 1)}, api.ErrTwice},
	} {
		if fact, err := affine.Range(c.f, c.l); fact != (span.Fact{}) || err != c.err {
			t.Error("Range", i, fact, err)
		}
	}
}

// TestValuesAreInRange: promise P11.4.
func TestValuesAreInRange(t *testing.T) {
	r := rand.New(rand.NewSource(22))
	inside := 0
	for i := range 1500 {
		f, l := makeForm(t, r), makeKnown(r)
		fact, err := affine.Range(f, l)
		if err != api.OK || !fact.Is {
			continue
		}
		var b []expr.Binding
		for _, k := range l {
			low, high := max(k.Span.Low, -1<<31), min(k.Span.High, 1<<31-1)
			v, _ := num.Wrap(api.I32, int64(low+r.Intn(high-low+1)))
			b = append(b, expr.Binding{Name: k.Name, Value: v})
		}
		n, err := affine.Value(f, b)
		if err == api.ErrUnknown { // a variable of which nothing is known
			continue
		}
		if err != api.OK || n < fact.Span.Low || n > fact.Span.High {
			t.Fatal("a value is not in the span", i, text(f), b, n, err, fact)
		}
		inside++
	}
	if inside < 200 {
		t.Error("rare", inside)
	}
}
