package lang_test

import (
	"math/rand"
	"slices"
	"strings"
	"testing"

	"halation/api"
	"halation/expr"
	"halation/lang"
)

// Promise P3.2.

func examples() []lang.Decl {
	return []lang.Decl{{Op: api.ECall, Name: "f", Kind: api.U8}, {Op: api.EParam, Name: "gain", Kind: api.I32}}
}

func variable(name string) tree { return tree{node: api.Node{Op: api.EVar, Kind: api.I32, Name: name}} }

func integer(n int32) tree {
	return tree{node: api.Node{Op: api.EConst, Kind: api.I32, Bits: uint64(uint32(n))}}
}

func constant(kind int, bits uint64) tree {
	return tree{node: api.Node{Op: api.EConst, Kind: kind, Bits: bits}}
}

func above(op int, kids ...tree) tree { return tree{api.Node{Op: op}, kids} }

func named(op, kind int, name string, kids ...tree) tree {
	return tree{api.Node{Op: op, Kind: kind, Name: name}, kids}
}

// TestTexts has the forms of the grammar, each one with what it is.
func TestTexts(t *testing.T) {
	x, y, z := variable("x"), variable("y"), variable("z")
	in := func(at tree) tree { return named(api.EImage, api.U8, "in", at) }
	for i, c := range []struct {
		s       string
		is      tree
		printed string
	}{
		{"(x + 3) * x", above(api.EMul, above(api.EAdd, x, integer(3)), x), "(x + 3) * x"},
		{"x + 3 * x", above(api.EAdd, x, above(api.EMul, integer(3), x)), "x + 3 * x"},
		{"x-(3-y)", above(api.ESub, x, above(api.ESub, integer(3), y)), "x - (3 - y)"},
		{"(x - 3) - y", above(api.ESub, above(api.ESub, x, integer(3)), y), "x - 3 - y"},
		{"x - 3 - y", above(api.ESub, above(api.ESub, x, integer(3)), y), "x - 3 - y"},
		{"f(x, y - 1) < 5u8", above(api.ELt, named(api.ECall, api.U8, "f", x, above(api.ESub, y, integer(1))), constant(api.U8, 5)), "f(x, y - 1) < 5u8"},
		{"x - -3", above(api.ESub, x, integer(-3)), "x - -3"},
		{"x -3", above(api.ESub, x, integer(3)), "x - 3"},
		{"select(x < 0, in.u8[0], in.u8[x])", above(api.ESelect, above(api.ELt, x, integer(0)), in(integer(0)), in(x)), "select(x < 0, in.u8[0], in.u8[x])"},
		{"u16(f(x) + 1u8) << 2u16", above(api.EShl, named(api.ECast, api.U16, "", above(api.EAdd, named(api.ECall, api.U8, "f", x), constant(api.U8, 1))), constant(api.U16, 2)), "u16(f(x) + 1u8) << 2u16"},
		{"$min", variable("min"), "$min"},
		{"$u8 + $x", above(api.EAdd, variable("u8"), x), "$u8 + x"},
		{"min.i32(x)", named(api.ECall, api.I32, "min", x), "min.i32(x)"},
		{"min.i32[x] + min.i32{x}", above(api.EAdd, named(api.EImage, api.I32, "min", x), named(api.ELoad, api.I32, "min", x)), "min.i32[x] + min.i32{x}"},
		{"min(x, y)", above(api.EMin, x, y), "min(x, y)"}, {"max(x, y)", above(api.EMax, x, y), "max(x, y)"},
		{"sat_add(x, y)", above(api.ESatAdd, x, y), "sat_add(x, y)"}, {"sat_sub(x,y)", above(api.ESatSub, x, y), "sat_sub(x, y)"},
		{"avg(x, y)", above(api.EAvg, x, y), "avg(x, y)"}, {"dist(x, y)", above(api.EDist, x, y), "dist(x, y)"},
		{"sat_u8(x)", named(api.ESat, api.U8, "", x), "sat_u8(x)"}, {"bool(x)", named(api.ECast, api.Bool, "", x), "bool(x)"},
		{"@gain", named(api.EParam, api.I32, "gain"), "@gain"}, {"@gain.u8", named(api.EParam, api.U8, "gain"), "@gain.u8"}, {"@min.f32", named(api.EParam, api.F32, "min"), "@min.f32"},
		{"true", constant(api.Bool, 1), "true"}, {"!false", above(api.ENot, constant(api.Bool, 0)), "!false"}, {"! ( ! true )", above(api.ENot, above(api.ENot, constant(api.Bool, 1))), "!!true"},
		{"!(x < 3)", above(api.ENot, above(api.ELt, x, integer(3))), "!(x < 3)"}, {"!x * y", above(api.EMul, above(api.ENot, x), y), "!x * y"}, {"!(x * y)", above(api.ENot, above(api.EMul, x, y)), "!(x * y)"}, {"!-3", above(api.ENot, integer(-3)), "!-3"},
		{"true.u8(x)", named(api.ECall, api.U8, "true", x), "true.u8(x)"}, {"true.u8[x]", named(api.EImage, api.U8, "true", x), "true.u8[x]"},
		{"(x == y) == true", above(api.EEq, above(api.EEq, x, y), constant(api.Bool, 1)), "(x == y) == true"},
		{"true != (x <= y)", above(api.ENe, constant(api.Bool, 1), above(api.ELe, x, y)), "true != (x <= y)"},
		{"x | y ^ z & x << y + z * x", above(api.EOr, x, above(api.EXor, y, above(api.EAnd, z, above(api.EShl, x, above(api.EAdd, y, above(api.EMul, z, x)))))), "x | y ^ z & x << y + z * x"},
		{"x * y / z % x + y - z << x >> y & z ^ x | y == z", above(api.EEq, above(api.EOr, above(api.EXor, above(api.EAnd, above(api.EShr, above(api.EShl, above(api.ESub, above(api.EAdd, above(api.EMod, above(api.EDiv, above(api.EMul, x, y), z), x), y), z), x), y), z), x), y), z), "x * y / z % x + y - z << x >> y & z ^ x | y == z"},
		{"(x | y) & z", above(api.EAnd, above(api.EOr, x, y), z), "(x | y) & z"}, {"x & (y & z)", above(api.EAnd, x, above(api.EAnd, y, z)), "x & (y & z)"},
		{"3p-1f32", constant(api.F32, 0x3fc00000), "3p-1f32"}, {"c64(1p0,0p0)", constant(api.C64, 0x3f800000), "c64(1p0,0p0)"}, {"c64( 1p0f32 )", named(api.ECast, api.C64, "", constant(api.F32, 0x3f800000)), "c64(1p0f32)"},
		{"((((x))))", x, "x"},
		{"reduce_add(ramp(x, 2, 4))", tree{api.Node{Op: api.EReduce, Bits: api.EAdd}, []tree{{api.Node{Op: api.ERamp, Lanes: 4}, []tree{x, integer(2)}}}}, "reduce_add(ramp(x, 2, 4))"},
		{"shuffle(broadcast(x, 032), 31, 000)", tree{api.Node{Op: api.EShuffle, Picks: []int{31, 0}}, []tree{{api.Node{Op: api.EBroadcast, Lanes: 32}, []tree{x}}}}, "shuffle(broadcast(x, 32), 31, 0)"},
		{"f.u8(ramp(x, 1, 2))", named(api.ECall, api.U8, "f", tree{api.Node{Op: api.ERamp, Lanes: 2}, []tree{x, integer(1)}}), "f(ramp(x, 1, 2))"},
	} {
		want := c.is.nodes(nil)
		e, place, err := lang.Parse(c.s, examples())
		s, err2 := lang.Print(want, examples())
		if !equalNodes(e, want) || place != 0 || err != api.OK {
			t.Error("Parse", i, c.s, e, place, err)
		}
		if s != c.printed || err2 != api.OK {
			t.Error("Print", i, s, err2)
		}
		if s, place, err := lang.Format(c.s, examples()); s != c.printed || place != 0 || err != api.OK {
			t.Error("Format", i, s, place, err)
		}
	}
}

// TestParseErrors has the errors that the document names, the first one of each.
func TestParseErrors(t *testing.T) {
	long := strings.Repeat("n", api.MaxName+1)
	many := "x" + strings.Repeat("+x", 128) // 257 nodes
	for i, c := range []struct {
		s     string
		place int
		e     api.Errno
	}{
		{"x + ", 4, api.ErrSyntax}, {"x # y", 2, api.ErrSyntax}, {"300u8", 0, api.ErrRange}, {"x == y == 1", 7, api.ErrSyntax}, {"x + 1u8", 0, api.ErrType},
		{"", 0, api.ErrSyntax}, {"   ", 3, api.ErrSyntax}, {strings.Repeat(" ", 4097), 0, api.ErrLong}, {"#" + long, 0, api.ErrSyntax}, {"+ x #", 4, api.ErrSyntax},
		{"f(x", 3, api.ErrSyntax}, {"f(x,)", 4, api.ErrSyntax}, {"f()", 2, api.ErrSyntax}, {"f(x]", 3, api.ErrSyntax}, {"f(x))", 4, api.ErrSyntax}, {"x, y", 1, api.ErrSyntax}, {"in.u8[x}", 7, api.ErrSyntax}, {"b.u8{x)", 6, api.ErrSyntax}, {"b.u8{x, y}", 6, api.ErrSyntax},
		{"g(x)", 0, api.ErrUnknown}, {" g( +", 1, api.ErrUnknown}, {"g", 0, api.OK}, {"x + g[", 4, api.ErrUnknown}, {"g{", 0, api.ErrUnknown}, {"f[x]", 0, api.ErrUnknown}, {"f{x}", 0, api.ErrUnknown}, {"@f", 0, api.ErrUnknown}, {"gain(x)", 0, api.ErrUnknown}, {"1 + @q +", 4, api.ErrUnknown}, {"@gain.x", 0, api.ErrUnknown}, {"@gain.min +", 0, api.ErrUnknown},
		{"f.zz(x)", 0, api.ErrUnknown}, {"f.sat_u8(x)", 0, api.ErrUnknown}, {"f.true(x)", 0, api.ErrUnknown}, {"x + f.min[x]", 4, api.ErrUnknown}, {"@gain.sat_i32", 0, api.ErrUnknown}, {"f.zz + 1", 5, api.ErrSyntax}, {"f.zz", 4, api.ErrSyntax}, {"x.u8 + 1", 5, api.ErrSyntax}, {"min[x]", 0, api.ErrUnknown}, {"min", 3, api.ErrSyntax}, {"min + 1", 4, api.ErrSyntax}, {"min.u8", 6, api.ErrSyntax}, {"u8", 2, api.ErrSyntax}, {"true(x)", 4, api.ErrSyntax}, {"true[x]", 0, api.ErrUnknown}, {"false{x}", 0, api.ErrUnknown}, {"true x", 5, api.ErrSyntax}, {"x y", 2, api.ErrSyntax}, {"x !", 2, api.ErrSyntax}, {"$f(x)", 2, api.ErrSyntax}, {"@gain(x)", 5, api.ErrSyntax}, {"3(x)", 1, api.ErrSyntax},
		{"min(x)", 5, api.ErrSyntax}, {"min(x, y, z)", 8, api.ErrSyntax}, {"select(true, x)", 14, api.ErrSyntax}, {"u8(x, y)", 4, api.ErrSyntax}, {"reduce_add(x, y)", 12, api.ErrSyntax},
		{"ramp(x, 1, 1000)", 11, api.ErrSyntax}, {"ramp(x, 1, -4)", 11, api.ErrSyntax}, {"ramp(x, 1, 4u8)", 11, api.ErrSyntax}, {"ramp(x, 1, y)", 11, api.ErrSyntax}, {"ramp(x, 4)", 9, api.ErrSyntax}, {"ramp(x, 1, 4, 5)", 12, api.ErrSyntax}, {"broadcast(x)", 11, api.ErrSyntax}, {"broadcast(x, 2, 2)", 14, api.ErrSyntax}, {"broadcast(2)", 11, api.ErrSyntax}, {"shuffle(x)", 9, api.ErrSyntax}, {"shuffle(x, 1, x)", 14, api.ErrSyntax}, {"shuffle(x, 1,)", 13, api.ErrSyntax},
		{"ramp(x, 1, 1)", 0, api.ErrVector}, {"ramp(x, 1, 0)", 0, api.ErrVector}, {"ramp(x, 1, 33)", 0, api.ErrVector}, {"broadcast(x, 999)", 0, api.ErrVector}, {"shuffle(ramp(x, 1, 4), 4)", 0, api.ErrVector}, {"reduce_add(x)", 0, api.ErrVector}, {"ramp(x, 1, 4) + x", 0, api.ErrVector}, {"shuffle(ramp(x, 1, 2)" + strings.Repeat(", 0", 33) + ")", 0, api.ErrVector},
		{"-x", 0, api.ErrSyntax}, {"x - - 3", 4, api.ErrSyntax}, {")", 0, api.ErrSyntax}, {"()", 1, api.ErrSyntax}, {"(x", 2, api.ErrSyntax}, {"!", 1, api.ErrSyntax}, {"! ", 2, api.ErrSyntax}, {"x < y < z", 6, api.ErrSyntax}, {"(x < y < z)", 7, api.ErrSyntax}, {"f(x == y != z)", 9, api.ErrSyntax},
		{long, 0, api.ErrName}, {"x + " + long + " +", 4, api.ErrName}, {"x + " + long + "(", 4, api.ErrName}, {"@" + long, 0, api.ErrName}, {"@" + long + ".zz", 0, api.ErrName}, {"$" + long, 0, api.ErrName}, {long + ".zz(x)", 0, api.ErrName}, {long + "[x]", 0, api.ErrName}, {"f." + long + "(x)", 0, api.ErrUnknown}, {long[1:], 0, api.OK}, {"x " + long, 2, api.ErrSyntax},
		{"05", 0, api.ErrSyntax}, {"x + 05 +", 4, api.ErrSyntax}, {"x + 5x +", 4, api.ErrSyntax}, {"5i32", 0, api.ErrSyntax}, {"2147483648", 0, api.ErrRange}, {strings.Repeat("1", 62), 0, api.ErrLong}, {"2p0f32 + +", 0, api.ErrRange}, {"c64(2p0,1p0)", 0, api.ErrRange},
		{"f(x, x, x, x)", 0, api.ErrShape}, {"f(1u8)", 0, api.ErrType}, {"!1p0f32", 0, api.ErrType}, {"sat_bool(x)", 0, api.ErrType}, {"sat_f32(x)", 0, api.ErrType}, {"u8(c64(1p0,0p0))", 0, api.ErrType}, {"select(x, x, x)", 0, api.ErrType}, {"select(true, x, 1u8)", 0, api.ErrType}, {"reduce_min(broadcast(true, 2))", 0, api.ErrType}, {"reduce_add(broadcast(c64(1p0,0p0), 2))", 0, api.OK}, {many, 0, api.ErrMany}, {many + "+true+", 263, api.ErrSyntax},
	} {
		e, place, err := lang.Parse(c.s, examples())
		if (len(e) > 0) != (c.e == api.OK) || place != c.place || err != c.e {
			t.Error("Parse", i, c.s, e, place, err)
		}
		s, place, err := lang.Format(c.s, examples())
		if (s != "") != (c.e == api.OK) || place != c.place || err != c.e {
			t.Error("Format", i, c.s, s, place, err)
		}
	}
	wrong := []lang.Decl{{Op: api.ECall, Name: "9"}}
	_, place, e1 := lang.Parse("x #", wrong)
	_, place2, e2 := lang.ParseList("x #", wrong)
	_, place3, e3 := lang.Format("x #", wrong)
	if e1 != api.ErrName || e2 != api.ErrName || e3 != api.ErrName || place+place2+place3 != 0 {
		t.Error("declarations come first", e1, e2, e3)
	}
	if e, _, err := lang.Parse("min[x] + min{x} + @min", []lang.Decl{{Op: api.EImage, Name: "min", Kind: api.I32}, {Op: api.ELoad, Name: "min", Kind: api.I32}, {Op: api.EParam, Name: "min", Kind: api.I32}}); len(e) != 7 || err != api.OK {
		t.Error("declared reserved words", e, err)
	}
}

func TestLists(t *testing.T) {
	nine, eight := "1"+strings.Repeat(", 1", 8), "1"+strings.Repeat(", 1", 7)
	for i, c := range []struct {
		s     string
		n     int
		place int
		e     api.Errno
	}{
		{"", 0, 0, api.OK}, {"   ", 0, 0, api.OK}, {"x", 1, 0, api.OK}, {"x, y + 1", 2, 0, api.OK}, {eight, 8, 0, api.OK}, {nine, 0, 0, api.ErrMany}, {nine + ", x + true", 0, 0, api.ErrMany}, {"x + true, !1p0f32 + broadcast(x, 1), " + nine, 0, 0, api.ErrMany},
		{"x + true, ramp(x, 1, 1)", 0, 0, api.ErrType}, {"x, ramp(x, 1, 1), x + true", 0, 0, api.ErrVector}, {"x,", 0, 2, api.ErrSyntax}, {",", 0, 0, api.ErrSyntax}, {", x", 0, 0, api.ErrSyntax}, {"x,, y", 0, 2, api.ErrSyntax}, {"x y", 0, 2, api.ErrSyntax}, {"(x, y)", 0, 2, api.ErrSyntax}, {"x)", 0, 1, api.ErrSyntax}, {"x, g(x)", 0, 3, api.ErrUnknown}, {"x == y == z", 0, 7, api.ErrSyntax}, {nine + ",", 0, 26, api.ErrSyntax}, {strings.Repeat(" ", 4097), 0, 0, api.ErrLong},
	} {
		l, place, err := lang.ParseList(c.s, examples())
		if len(l) != c.n || place != c.place || err != c.e {
			t.Error("ParseList", i, c.s, l, place, err)
		}
	}
	right, wrong := variable("x").nodes(nil), api.Expr{{Op: api.EVar, Kind: api.U8, Lanes: 1, Name: "x"}}
	bad := []lang.Decl{{Op: api.ECall}}
	big := textOfSize(2048)
	for i, c := range []struct {
		l     []api.Expr
		decls []lang.Decl
		s     string
		e     api.Errno
	}{
		{nil, nil, "", api.OK}, {[]api.Expr{right, right}, nil, "x, x", api.OK}, {slices.Repeat([]api.Expr{right}, 8), nil, "x, x, x, x, x, x, x, x", api.OK}, {slices.Repeat([]api.Expr{wrong}, 9), bad, "", api.ErrMany}, {[]api.Expr{right, wrong, nil}, bad, "", api.ErrType}, {[]api.Expr{right, nil, wrong}, bad, "", api.ErrEmpty}, {[]api.Expr{right}, bad, "", api.ErrName}, {nil, bad, "", api.ErrName}, {[]api.Expr{big, big}, bad, "", api.ErrName}, {[]api.Expr{big, big}, nil, "", api.ErrLong},
	} {
		if s, err := lang.PrintList(c.l, c.decls); s != c.s || err != c.e {
			t.Error("PrintList", i, s, err)
		}
	}
}

func TestPrintErrors(t *testing.T) {
	right, wrong := variable("x").nodes(nil), api.Expr{{Op: api.EVar, Kind: api.U8, Lanes: 1, Name: "x"}}
	bad := []lang.Decl{{Op: api.ECall}}
	big := textOfSize(lang.MaxLine + 1)
	for i, c := range []struct {
		e     api.Expr
		decls []lang.Decl
		s     string
		err   api.Errno
	}{
		{right, nil, "x", api.OK}, {nil, bad, "", api.ErrEmpty}, {wrong, bad, "", api.ErrType}, {right, bad, "", api.ErrName}, {big, bad, "", api.ErrName}, {big, nil, "", api.ErrLong},
	} {
		if s, err := lang.Print(c.e, c.decls); s != c.s || err != c.err {
			t.Error("Print", i, len(s), err)
		}
	}
}

// textOfSize returns an expression with a text of so many bytes: calls of 30 bytes in one another, each !, and a variable.
func textOfSize(size int) api.Expr {
	calls := (size - 1) / 30
	rest := size - 30*calls
	name := max(1, rest-10)
	x := variable(strings.Repeat("v", name))
	for range rest - name {
		x = above(api.ENot, x)
	}
	for range calls {
		x = named(api.ECall, api.I32, strings.Repeat("f", 24), x)
	}
	return x.nodes(nil)
}

// TestLongTexts goes to the greatest length of a printed text and one byte beyond it.
func TestLongTexts(t *testing.T) {
	for size := lang.MaxLine - 3; size <= lang.MaxLine+3; size++ {
		want, length := api.OK, size
		if size > lang.MaxLine {
			want, length = api.ErrLong, 0
		}
		e := textOfSize(size)
		s, err := lang.Print(e, nil)
		if len(s) != length || err != want {
			t.Error("Print", size, len(s), err)
		}
		if l, err := lang.PrintList([]api.Expr{e}, nil); l != s || err != want {
			t.Error("PrintList", size, len(l), err)
		}
		if back, _, err := lang.Parse(s, nil); want == api.OK && (!equalNodes(back, e) || err != api.OK) {
			t.Error("Parse", size, err)
		}
		x := variable("x").nodes(nil)
		want, length = api.OK, size+3
		if length > lang.MaxLine {
			want, length = api.ErrLong, 0
		}
		if s, err := lang.PrintList([]api.Expr{x, e}, nil); len(s) != length || err != want {
			t.Error("PrintList of two", size, len(s), err)
		}
	}
	packed := "shuffle(shuffle(" + strings.Repeat("shuffle(", 42) + "ramp(x,1,2)" + strings.Repeat(strings.Repeat(",0", 32)+")", 44)
	if e, _, err := lang.Parse(packed, nil); len(packed) > lang.MaxLine || len(e) == 0 || err != api.OK {
		t.Fatal("a text without spaces", len(packed), err)
	}
	if s, place, err := lang.Format(packed, nil); s != "" || place != 0 || err != api.ErrLong {
		t.Error("Format", len(s), place, err)
	}
}

// TestMadeTexts compares with the texts and expressions that follow from the document's tables.
func TestMadeTexts(t *testing.T) {
	for seed := range int64(madeTrees) {
		made, decls := makeTree(seed, 0), makeDecls(seed)
		want, text := made.nodes(nil), made.text(decls, style{})
		s, err := lang.Print(want, decls)
		if len(text) > lang.MaxLine {
			text = ""
		}
		if s != text || (err != api.OK) != (text == "") {
			t.Fatal("Print", seed, s, text, err)
		}
		loose := made.text(decls, style{rand.New(rand.NewSource(seed))})
		if e, place, err := lang.Parse(loose, decls); len(loose) <= lang.MaxLine && (!equalNodes(e, want) || place != 0 || err != api.OK) {
			t.Fatal("Parse", seed, loose, e, place, err)
		}
	}
}

// TestMadeErrors reads texts of expressions that are not right.
func TestMadeErrors(t *testing.T) {
	seen := map[api.Errno]int{}
	for seed := range int64(10 * madeTrees) {
		made := makeTree(seed, 40)
		want, text := made.nodes(nil), made.text(nil, style{})
		wantErr := expr.Check(want)
		if len(text) > lang.MaxLine {
			continue
		}
		seen[wantErr]++
		if wantErr != api.OK {
			want = nil
		}
		if e, place, err := lang.Parse(text, nil); !equalNodes(e, want) || place != 0 || err != wantErr {
			t.Fatal("Parse", seed, text, place, err, wantErr)
		}
	}
	for _, err := range []api.Errno{api.OK, api.ErrType, api.ErrVector, api.ErrShape} {
		if seen[err] < 20 {
			t.Error("an error is rare", err, seen)
		}
	}
}
