package loop_test

import (
	"fmt"
	"slices"
	"strings"
	"testing"

	"halation/api"
	"halation/loop"
)

// Promises P18.3 and P18.4.

// TestTexts prints programs, and reads them back.
func TestTexts(t *testing.T) {
	t.Parallel()
	for seed := range int64(500) {
		p := maker(seed).Program()
		s, err := loop.Print(p)
		if s != written(p) || err != api.OK {
			t.Fatal(seed, err, s, "not", written(p))
		}
		q, at, err := loop.Parse(s)
		if !same(p, q) || at != 0 || err != api.OK {
			t.Fatal(seed, at, err)
		}
	}
}

// TestChangedTexts changes lines of texts. What is read is what is printed; the first line that is wrong is so whatever
// comes behind it, and what comes before it is none.
func TestChangedTexts(t *testing.T) {
	t.Parallel()
	seen := map[string]int{}
	for seed := range int64(2500) {
		m := maker(seed)
		s, _ := loop.Print(m.Program())
		lines := slices.Collect(strings.Lines(s))
		at := m.Intn(len(lines))
		line := []byte(lines[at])
		i := m.Intn(len(line))
		bytes := " \n0-9ax;:{},$@.(+"
		switch m.Intn(8) {
		case 0:
			line = slices.Delete(line, i, i+1)
		case 1:
			line = slices.Insert(line, i, bytes[m.Intn(len(bytes))])
		case 2:
			line[i] = bytes[m.Intn(len(bytes))]
		case 3:
			line = nil
		case 4:
			line = append(line, line...)
		case 5:
			line = []byte(lines[m.Intn(len(lines))])
		case 6:
			words := strings.Split(string(line), " ")
			words[m.Intn(len(words))] = []string{"buffer", "param", "for", "x", "u8", "-0", "}", "{", "12345678901234567890"}[m.Intn(9)]
			line = []byte(strings.Join(words, " "))
		case 7:
			lines = lines[:at]
		}
		text := strings.Join(lines[:min(at, len(lines))], "") + string(line)
		if at < len(lines) {
			text += strings.Join(lines[at+1:], "")
		}
		p, wrong, err := loop.Parse(text)
		changed := slices.Collect(strings.Lines(text))
		seen[fmt.Sprint(err)]++
		switch {
		case err == api.OK:
			if again, err := loop.Print(p); again != text || wrong != 0 || err != api.OK {
				t.Fatal(seed, "printed again", text, again, err)
			}
			continue
		case len(p.Stmts)+len(p.Buffers)+len(p.Params) > 0:
			t.Fatal(seed, "a program beside an error")
		case err != api.ErrSyntax || wrong == len(changed):
			if wrong != len(changed) {
				t.Fatal(seed, wrong, err, text)
			}
			continue
		}
		// with the lines up to the wrong one it is the first wrong one; without it it is not there
		if _, at, err := loop.Parse(strings.Join(changed[:wrong+1], "")); at != wrong || err != api.ErrSyntax {
			t.Fatal(seed, "up to it", at, err, wrong, text)
		}
		if _, at, err := loop.Parse(strings.Join(changed[:wrong], "")); err != api.OK && at != wrong {
			t.Fatal(seed, "without it", at, err, wrong, text)
		}
	}
	if seen["0"] < 100 || seen["22"] < 1000 || len(seen) < 5 {
		t.Error("rare", seen)
	}
}

// TestWrongLines has lines that are not just as they should be.
func TestWrongLines(t *testing.T) {
	block := "block {\n}\n"
	in := func(s string) string { return "buffer a u8 0:6\nparam k i32 -5 9\nblock {\n" + s + "}\n" }
	for i, x := range []struct {
		s  string
		at int
	}{
		{"", 0}, {"\n", 0}, {" ", 0}, {"block {", 0}, {"block {\n}", 1}, {"block {\n", 1}, {"block {\n}\n\n", 2}, {"block {\n}\n ", 2}, {block + block, 2},
		{"}\n", 0}, {"} else {\n", 0}, {"block{\n}\n", 0}, {"block  {\n}\n", 0}, {" block {\n}\n", 0}, {"block {\n }\n", 1}, {"block { \n}\n", 0}, {"block x {\n}\n", 0}, {"block\n}\n", 0}, {"Block {\n}\n", 0}, {"block {\r\n}\n", 0},
		{"buffer a u8\n" + block, 0}, {"buffer a u8 \n" + block, 0}, {"buffer a u8 0:6 \n" + block, 0}, {"buffer a u8 0:6,1:2\n" + block, 0}, {"buffer a u8 0:6,  1:2\n" + block, 0}, {"buffer a u8 0:6, \n" + block, 0},
		{"buffer a u8 06\n" + block, 0}, {"buffer a u8 0:6:1\n" + block, 0}, {"buffer a u8 -0:6\n" + block, 0}, {"buffer a u8 00:6\n" + block, 0}, {"buffer a u8 +1:6\n" + block, 0}, {"buffer a u8 0x1:6\n" + block, 0}, {"buffer a u8 :6\n" + block, 0}, {"buffer a u8 0:\n" + block, 0},
		{"buffer a u9 0:6\n" + block, 0}, {"buffer 9a u8 0:6\n" + block, 0}, {"buffer  u8 0:6\n" + block, 0}, {"buffer abcdefghijklmnopqrstuvwxy u8 0:6\n" + block, 0}, {"buffer a u8 9223372036854775808:1\n" + block, 0}, {"buffer a u8 0:6", 0},
		{"param k i32 0 1 \n" + block, 0}, {"param k i32 0\n" + block, 0}, {"param k i32 0 01\n" + block, 0}, {"param k i32 -0 1\n" + block, 0}, {"param k i33 0 1\n" + block, 0}, {"param k-1 i32 0 1\n" + block, 0}, {"param k i32 0 9223372036854775808\n" + block, 0}, {"param k  i32 0 1\n" + block, 0},
		{"param k i32 0 1\nbuffer a u8 0:6\n" + block, 1}, {block + "buffer a u8 0:6\n", 2}, {"block {\n  buffer a u8 0:6\n}\n", 1}, {"block {\n  param k i32 0 1\n}\n", 1},
		{in("copy a to host\n"), 3}, {in("   copy a to host\n"), 3}, {in("    copy a to host\n"), 3}, {in("\tcopy a to host\n"), 3},
		{in("  copy a\n"), 3}, {in("  copy a to\n"), 3}, {in("  copy a to disk\n"), 3}, {in("  copy a to host {\n"), 3}, {in("  copy  to host\n"), 3}, {in("  copy a  to host\n"), 3}, {in("  copy a to host to host\n"), 3},
		{in("  for x ; 0 {\n"), 3}, {in("  for x ; 0 ; 1 ; 2 {\n"), 3}, {in("  for x ; 0 ; 1\n"), 3}, {in("  for ; 0 ; 1 {\n"), 3}, {in("  for x; 0 ; 1 {\n"), 3}, {in("  for x ; 0 ;1 {\n"), 3}, {in("  for x ; 0 ; 1 {\n  }\n"), 4}, {in("  for x ; 0 ; 1 {\n    block {\n    }\n    block {\n    }\n  }\n"), 6}, {in("  for x ; 0 ; 1 {\n    block {\n    }\n  } else {\n    block {\n    }\n  }\n"), 6},
		{in("  loop x ; 0 ; 1 {\n"), 3}, {in("  serial x ; 0 ; 1 {\n"), 3}, {in("  for x y ; 0 ; 1 {\n"), 3}, {in("  for $x ; 0 ; 1 {\n"), 3}, {in("  for 1 ; 0 ; 1 {\n"), 3},
		{in("  alloc b u8 {\n"), 3}, {in("  alloc b 4 {\n"), 3}, {in("  alloc b u8 4\n"), 3}, {in("  alloc b u8  4 {\n"), 3}, {in("  alloc b u9 4 {\n"), 3}, {in("  alloc b u8 4 {\n  }\n"), 4},
		{in("  store a ; 0\n"), 3}, {in("  store a ; 0 ; 1u8 ; true ; true\n"), 3}, {in("  store a ; 0 ; 1u8 ; \n"), 3}, {in("  store a 0 ; 1u8\n"), 3}, {in("  store a ; 0 ; 1u8 {\n"), 3}, {in("  store a ; 00 ; 1u8\n"), 3}, {in("  store a ; 0 ; (1u8)\n"), 3}, {in("  store a ; 0 ; a{0 }\n"), 3}, {in("  store a ; 0 ; a.u8{0}\n"), 3}, {in("  store a ; 0 ; b{0}\n"), 3}, {in("  store a ; @k.i32 ; 1u8\n"), 3}, {in("  store a ; @q ; 1u8\n"), 3}, {in("  store a ; 0 ; 256u8\n"), 3}, {in("  store a ; 0 ; 1u8 + 1\n"), 3}, {in("  store a ; 0i32 ; 1u8\n"), 3}, {in("  store a ;  0 ; 1u8\n"), 3},
		{in("  if 1 < 2\n"), 3}, {in("  if {\n"), 3}, {in("  if 1 < 2 {\n  }\n"), 4}, {in("  if 1 < 2 {\n    block {\n    }\n  } else {\n  }\n"), 7}, {in("  if 1 < 2 {\n  } else {\n    block {\n    }\n  }\n"), 4}, {in("  if 1 < 2 {\n    block {\n    }\n    block {\n    }\n  }\n"), 6}, {in("  if 1 < 2 {\n    block {\n    }\n  } else {\n    block {\n    }\n  } else {\n    block {\n    }\n  }\n"), 9}, {in("  if 1 < 2 {\n    block {\n    }\n  }else {\n"), 6}, {in("  if 1 < 2 {\n    block {\n    }\n  } else {\n    block {\n    }\n    block {\n    }\n  }\n"), 9}, {in("  block {\n  } else {\n    block {\n    }\n  }\n"), 4},
		{in("  let x 0 {\n"), 3}, {in("  let x ; 0\n"), 3}, {in("  let x ; 0 {\n  }\n"), 4}, {in("  let x ; 0 ; 1 {\n"), 3},
		{in("  assert a\n"), 3}, {in("  assert 1 < 2\n"), 3}, {in("  assert m ; 1 < 2\n"), 3}, {in("  assert m 1 < 2 {\n"), 3},
		{in("  mark {\n"), 3}, {in("  mark m\n"), 3}, {in("  mark m m {\n"), 3}, {in("  mark m {\n  }\n"), 4},
	} {
		p, at, err := loop.Parse(x.s)
		if at != x.at || err != api.ErrSyntax || len(p.Stmts)+len(p.Buffers) > 0 {
			t.Errorf("%d: %q: %d, %d", i, x.s, at, err)
		}
	}
	if p, at, err := loop.Parse(in("")); at != 0 || err != api.OK || len(p.Stmts) != 1 {
		t.Error("nothing in the block", at, err)
	}
}

// TestReadPrograms has texts whose lines are right, but not their programs.
func TestReadPrograms(t *testing.T) {
	block := "block {\n}\n"
	for i, x := range []struct {
		s   string
		err api.Errno
	}{
		{"buffer a u8 0:6\nbuffer a u8 0:6\n" + block, api.ErrTwice},
		{"buffer a u8 0:6\nparam a u8 0 6\n" + block, api.ErrTwice},
		{"buffer a u8 0:1, 0:1, 0:1, 0:1\n" + block, api.ErrDims},
		{"buffer a u8 0:65\n" + block, api.ErrRange},
		{"buffer a u8 0:-1\n" + block, api.ErrRange},
		{"buffer a u8 -9223372036854775808:9223372036854775807\n" + block, api.ErrRange},
		{"param a c64 0 1\n" + block, api.ErrKind},
		{"param a u8 0 256\n" + block, api.ErrRange},
		{"param a i64 -9223372036854775808 9223372036854775807\n" + block, api.OK},
		{"param a u8 2 1\n" + block, api.ErrOrder},
		{"block {\n" + strings.Repeat("  block {\n  }\n", 64) + "}\n", api.OK},
		{"block {\n" + strings.Repeat("  block {\n  }\n", 65) + "}\n", api.ErrShape},
		{"block {\n" + strings.Repeat("  block {\n  }\n", 2000) + "}\n", api.ErrMany},
		{"assert m 1\n", api.ErrType}, {"if 1 {\n  block {\n  }\n}\n", api.ErrType},
		{"alloc b u8 1 + 1 {\n  block {\n  }\n}\n", api.ErrForm},
		{"alloc b u8 4097 {\n  block {\n  }\n}\n", api.ErrRange},
		{"let x ; x {\n  block {\n  }\n}\n", api.ErrUnknown},
		{"let x ; f.i32(0) {\n  block {\n  }\n}\n", api.ErrKind},
		{"let x ; f.i32[0] {\n  block {\n  }\n}\n", api.ErrKind},
		{"let x ; f.i32{0} {\n  block {\n  }\n}\n", api.ErrUnknown},
		{"let x ; @f.i32 {\n  block {\n  }\n}\n", api.ErrUnknown},
		{"let x ; ramp(0, 1, 2) {\n  block {\n  }\n}\n", api.ErrVector},
		{"copy a to host\n", api.ErrUnknown},
		{"lane x ; 0 ; 1 {\n  block {\n  }\n}\n", api.ErrLevel},
	} {
		want := strings.Count(x.s, "\n")
		if x.err == api.OK {
			want = 0
		}
		if _, at, err := loop.Parse(x.s); at != want || err != x.err {
			t.Errorf("%d: %q: %d, %d", i, x.s, at, err)
		}
	}
	// six buffers, five parameters
	s := ""
	for i := range 6 {
		s += fmt.Sprint("buffer b", i, " u8 0:1\n")
	}
	if _, at, err := loop.Parse(s + block); at != 8 || err != api.ErrMany {
		t.Error("six buffers", at, err)
	}
	s = ""
	for i := range 5 {
		s += fmt.Sprint("param b", i, " u8 0 1\n")
	}
	if _, at, err := loop.Parse(s + block); at != 7 || err != api.ErrMany {
		t.Error("five parameters", at, err)
	}
}

// TestLongTexts has texts, and expressions, that are too long.
func TestLongTexts(t *testing.T) {
	p := api.Program{Stmts: []api.Stmt{{Op: api.SBlock}}}
	for i := range 1999 {
		p.Stmts = append(p.Stmts, api.Stmt{Op: api.SMark, Name: "m", Kids: []int{i}})
	}
	if s, err := loop.Print(p); s != "" || err != api.ErrLong {
		t.Error("deep marks", len(s), err)
	}
	// n marks in one another have 2 + 10 + .. bytes: each has its line, and one for its end
	for n := 150; n < 200; n++ {
		q := api.Program{Stmts: slices.Clone(p.Stmts[:n])}
		size := 0
		for depth := range n {
			size += 2*2*depth + len("mark m {\n") + len("}\n")
		}
		size -= len("mark m {\n") - len("block {\n")
		s, err := loop.Print(q)
		if size > 65536 != (err == api.ErrLong) || err == api.OK && len(s) != size {
			t.Error(n, size, len(s), err)
		}
		if err != api.OK {
			continue
		}
		if back, at, err := loop.Parse(s); !same(back, q) || at != 0 || err != api.OK {
			t.Error("back", n, at, err)
		}
	}
	if _, at, err := loop.Parse(strings.Repeat("\n", 65537)); at != 0 || err != api.ErrLong {
		t.Error("a long text", at, err)
	}
	if _, at, err := loop.Parse(strings.Repeat("\n", 65536)); at != 0 || err != api.ErrSyntax {
		t.Error("a text of 65536 bytes", at, err)
	}
	// an expression whose text is longer than those of lang: many variables with a long name
	name := strings.Repeat("v", 24)
	var sum api.Expr
	for i := range 127 {
		sum = append(sum, api.Node{Op: api.EVar, Kind: api.I32, Lanes: 1, Name: name})
		if i > 0 {
			sum = append(sum, api.Node{Op: api.ESatAdd, Kind: api.I32, Lanes: 1, Kids: []int{len(sum) - 2, len(sum) - 1}})
		}
	}
	long := api.Program{Stmts: []api.Stmt{{Op: api.SBlock}, {Op: api.SLet, Name: "x", Exprs: []api.Expr{sum}, Kids: []int{0}}, {Op: api.SLet, Name: name, Exprs: []api.Expr{constant(0)}, Kids: []int{1}}}}
	if at, err := loop.Check(long); at != 0 || err != api.OK {
		t.Error("a long expression", at, err)
	}
	if s, err := loop.Print(long); s != "" || err != api.ErrLong {
		t.Error("a long expression", len(s), err)
	}
	// more than 64 buffers are known: expressions cannot be printed, but what has none can
	many := api.Program{Stmts: []api.Stmt{{Op: api.SBlock}}}
	for i := range 65 {
		many.Stmts = append(many.Stmts, api.Stmt{Op: api.SAlloc, Name: fmt.Sprint("b", i), Exprs: []api.Expr{constant(1)}, Kids: []int{i}})
	}
	if _, err := loop.Print(many); err != api.OK {
		t.Error("65 buffers", err)
	}
	many.Stmts[0] = api.Stmt{Op: api.SAssert, Name: "m", Exprs: []api.Expr{value(api.Bool, 1)}}
	if s, err := loop.Print(many); s != "" || err != api.ErrMany {
		t.Error("an expression where 65 buffers are known", err)
	}
}
