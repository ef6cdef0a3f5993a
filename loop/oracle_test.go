package loop_test

import (
	"fmt"
	"math/rand"
	"slices"
	"strings"
	"testing"

	"halation/api"
	"halation/expr"
	"halation/image"
	"halation/lang"
	"halation/loop"
	"halation/num"
	"halation/sample"
)

// maker returns a maker for a seed.
func maker(seed int64) sample.Maker {
	return sample.Maker{Picker: rand.New(rand.NewSource(seed))}
}

// parsed returns the program of a text.
func parsed(t *testing.T, s string) api.Program {
	t.Helper()
	p, at, err := loop.Parse(s)
	if err != api.OK || at != 0 {
		t.Fatalf("%s: %d, %d", s, at, err)
	}
	return p
}

// judge asks in the document's words what the first error of a program is, and where.
func judge(p api.Program) (int, api.Errno) {
	if err := judgeHead(p); err != api.OK {
		return -1, err
	}
	for at := range p.Stmts {
		if err := judgeForm(p.Stmts, at); err != api.OK {
			return at, err
		}
	}
	if members(p.Stmts, len(p.Stmts)-1)[0] != 0 {
		return -1, api.ErrForm
	}
	for at := range p.Stmts {
		if err := judgeNames(p, at); err != api.OK {
			return at, err
		}
	}
	return 0, api.OK
}

func judgeHead(p api.Program) api.Errno {
	names := map[string]bool{}
	name := func(s string) api.Errno {
		switch {
		case !expr.IsName(s):
			return api.ErrName
		case names[s]:
			return api.ErrTwice
		}
		names[s] = true
		return api.OK
	}
	if len(p.Buffers) > 5 {
		return api.ErrMany
	}
	for _, b := range p.Buffers {
		if err := name(b.Name); err != api.OK {
			return err
		}
		if b.Kind < 0 || b.Kind > api.C64 {
			return api.ErrKind
		}
		if err := image.CheckBox(b.Box); err != api.OK {
			return err
		}
	}
	if len(p.Params) > 4 {
		return api.ErrMany
	}
	for _, x := range p.Params {
		if err := name(x.Name); err != api.OK {
			return err
		}
		if x.Kind < 0 || x.Kind > api.F32 {
			return api.ErrKind
		}
		for _, n := range []int64{x.Low, x.High} {
			switch v, err := num.Wrap(x.Kind, n); {
			case x.Kind == api.F32:
				if n < -16777216 || n > 16777216 {
					return api.ErrRange
				}
			case x.Kind == api.U64:
				if n < 0 {
					return api.ErrRange
				}
			default:
				if back, _ := num.Int(v); err != api.OK || back != n {
					return api.ErrRange
				}
			}
		}
		if x.Low > x.High {
			return api.ErrOrder
		}
	}
	switch {
	case len(p.Stmts) == 0:
		return api.ErrEmpty
	case len(p.Stmts) > 2000:
		return api.ErrMany
	}
	return api.OK
}

// members returns the statements of one and of all in it, ascending.
func members(l []api.Stmt, at int) []int {
	out := []int{at}
	for _, kid := range l[at].Kids {
		out = append(out, members(l, kid)...)
	}
	slices.Sort(out)
	return out
}

func judgeForm(l []api.Stmt, at int) api.Errno {
	s := l[at]
	// what the table says: a name, the greatest kind and loop, the numbers of expressions and kids
	var named bool
	var kind, loops int
	exprs, kids := [2]int{}, [2]int{}
	types := []int{api.I32, api.I32}
	switch s.Op {
	case api.SBlock:
		kids = [2]int{0, 64}
	case api.SFor:
		named, loops, exprs, kids = true, 5, [2]int{2, 2}, [2]int{1, 1}
	case api.SAlloc:
		named, kind, exprs, kids = true, 10, [2]int{1, 1}, [2]int{1, 1}
	case api.SStore:
		named, exprs, types = true, [2]int{2, 3}, []int{api.I32, -1, api.Bool}
	case api.SIf:
		exprs, kids, types = [2]int{1, 1}, [2]int{1, 2}, []int{api.Bool}
	case api.SLet:
		named, exprs, kids = true, [2]int{1, 1}, [2]int{1, 1}
	case api.SAssert:
		named, exprs, types = true, [2]int{1, 1}, []int{api.Bool}
	case api.SMark:
		named, kids = true, [2]int{1, 1}
	case api.SCopy:
		named, loops = true, 1
	default:
		return api.ErrKind
	}
	switch {
	case s.Kind < 0 || s.Kind > kind || s.Loop < 0 || s.Loop > loops:
		return api.ErrKind
	case named && !expr.IsName(s.Name), !named && s.Name != "":
		return api.ErrName
	case len(s.Exprs) < exprs[0] || len(s.Exprs) > exprs[1] || len(s.Kids) < kids[0] || len(s.Kids) > kids[1]:
		return api.ErrShape
	}
	next := at
	for i := len(s.Kids) - 1; i >= 0; i-- {
		if s.Kids[i] < 0 || s.Kids[i] != next-1 {
			return api.ErrOrder
		}
		next = members(l, s.Kids[i])[0]
	}
	return judgeExprs(s, types)
}

func judgeExprs(s api.Stmt, types []int) api.Errno {
	var lanes []int
	for i, e := range s.Exprs {
		kind, n, err := expr.Kind(e)
		if err != api.OK {
			return err
		}
		if types[i] >= 0 && kind != types[i] {
			return api.ErrType
		}
		fixed := s.Op == api.SAlloc || s.Op == api.SFor && (s.Loop == api.Vector || s.Loop == api.Unrolled && i == 1)
		if fixed && (len(e) != 1 || e[0].Op != api.EConst) {
			return api.ErrForm
		}
		lanes = append(lanes, n)
	}
	for _, n := range lanes {
		if n != lanes[0] || s.Op != api.SStore && n > 1 {
			return api.ErrVector
		}
	}
	number := func(i int) int { return int(int32(s.Exprs[i][0].Bits)) }
	switch {
	case s.Op == api.SAlloc && (number(0) < 1 || number(0) > 4096),
		s.Op == api.SFor && s.Loop == api.Vector && (number(1) < 1 || number(1) > 32),
		s.Op == api.SFor && s.Loop == api.Unrolled && (number(1) < 0 || number(1) > 64):
		return api.ErrRange
	}
	return api.OK
}

// above returns the statements around one, the outermost first.
func above(l []api.Stmt, at int) []int {
	for up, s := range l {
		if slices.Contains(s.Kids, at) {
			return append(above(l, up), up)
		}
	}
	return nil
}

func judgeNames(p api.Program, at int) api.Errno {
	vars, params, buffers := map[string]bool{}, map[string]int{}, map[string]int{}
	for _, x := range p.Params {
		params[x.Name] = x.Kind
	}
	for _, b := range p.Buffers {
		buffers[b.Name] = b.Kind
	}
	var loops []int
	for _, up := range above(p.Stmts, at) {
		switch s := p.Stmts[up]; s.Op {
		case api.SFor:
			loops = append(loops, s.Loop)
			vars[s.Name] = true
		case api.SLet:
			vars[s.Name] = true
		case api.SAlloc:
			if _, ok := buffers[s.Name]; !ok {
				buffers[s.Name] = s.Kind
			}
		}
	}
	s := p.Stmts[at]
	_, isParam := params[s.Name]
	kind, isBuffer := buffers[s.Name]
	if (s.Op == api.SFor || s.Op == api.SLet || s.Op == api.SAlloc) && (vars[s.Name] || isParam || isBuffer) {
		return api.ErrTwice
	}
	for _, e := range s.Exprs {
		for _, n := range e {
			is, isKind := true, n.Kind
			switch n.Op {
			case api.ECall, api.EImage:
				return api.ErrKind
			case api.EVar:
				is = vars[n.Name]
			case api.EParam:
				isKind, is = params[n.Name]
			case api.ELoad:
				isKind, is = buffers[n.Name]
			}
			if !is {
				return api.ErrUnknown
			}
			if isKind != n.Kind {
				return api.ErrType
			}
		}
	}
	if (s.Op == api.SStore || s.Op == api.SCopy) && !isBuffer {
		return api.ErrUnknown
	}
	if s.Op == api.SStore && s.Exprs[1][len(s.Exprs[1])-1].Kind != kind {
		return api.ErrType
	}
	if s.Op != api.SFor {
		return api.OK
	}
	wrong := len(loops) >= 24
	for _, in := range members(p.Stmts, at) {
		x := p.Stmts[in]
		wrong = wrong || s.Loop == api.Vector && in != at && (x.Op == api.SAlloc || x.Op == api.SFor && x.Loop > api.Unrolled)
	}
	if wrong || (s.Loop == api.Lane) != slices.Contains(loops, api.Grid) && (s.Loop == api.Lane || s.Loop == api.Grid) {
		return api.ErrLevel
	}
	return api.OK
}

// written returns the text of a program in the document's words.
func written(p api.Program) string {
	var out strings.Builder
	kind := func(k int) string {
		s, _ := num.Name(k)
		return s
	}
	var decls []lang.Decl
	for _, x := range p.Params {
		decls = append(decls, lang.Decl{Op: api.EParam, Name: x.Name, Kind: x.Kind})
	}
	for _, b := range p.Buffers {
		decls = append(decls, lang.Decl{Op: api.ELoad, Name: b.Name, Kind: b.Kind})
		var box []string
		for _, r := range b.Box {
			box = append(box, fmt.Sprintf("%d:%d", r.Min, r.Extent))
		}
		fmt.Fprintf(&out, "buffer %s %s %s\n", b.Name, kind(b.Kind), strings.Join(box, ", "))
	}
	for _, x := range p.Params {
		fmt.Fprintf(&out, "param %s %s %d %d\n", x.Name, kind(x.Kind), x.Low, x.High)
	}
	var write func(at int, indent string, decls []lang.Decl)
	write = func(at int, indent string, decls []lang.Decl) {
		s := p.Stmts[at]
		var l []string
		for _, e := range s.Exprs {
			text, _ := lang.Print(e, decls)
			l = append(l, text)
		}
		switch s.Op {
		case api.SBlock:
			out.WriteString(indent + "block {\n")
		case api.SFor:
			fmt.Fprintf(&out, "%s%s %s ; %s ; %s {\n", indent, []string{"for", "unrolled", "vector", "tasks", "grid", "lane"}[s.Loop], s.Name, l[0], l[1])
		case api.SAlloc:
			fmt.Fprintf(&out, "%salloc %s %s %s {\n", indent, s.Name, kind(s.Kind), l[0])
			decls = append(slices.Clone(decls), lang.Decl{Op: api.ELoad, Name: s.Name, Kind: s.Kind})
		case api.SStore:
			fmt.Fprintf(&out, "%sstore %s ; %s\n", indent, s.Name, strings.Join(l, " ; "))
			return
		case api.SIf:
			fmt.Fprintf(&out, "%sif %s {\n", indent, l[0])
		case api.SLet:
			fmt.Fprintf(&out, "%slet %s ; %s {\n", indent, s.Name, l[0])
		case api.SAssert:
			fmt.Fprintf(&out, "%sassert %s %s\n", indent, s.Name, l[0])
			return
		case api.SMark:
			fmt.Fprintf(&out, "%smark %s {\n", indent, s.Name)
		case api.SCopy:
			fmt.Fprintf(&out, "%scopy %s to %s\n", indent, s.Name, []string{"host", "device"}[s.Loop])
			return
		}
		for i, kid := range s.Kids {
			if i > 0 && s.Op == api.SIf {
				out.WriteString(indent + "} else {\n")
			}
			write(kid, indent+"  ", decls)
		}
		out.WriteString(indent + "}\n")
	}
	write(len(p.Stmts)-1, "", decls)
	return out.String()
}

// same reports whether two programs are equal, for which a list that is nil is an empty one.
func same(a, b api.Program) bool {
	isBuffer := func(x, y api.Buffer) bool {
		return x.Name == y.Name && x.Kind == y.Kind && slices.Equal(x.Box, y.Box)
	}
	return slices.EqualFunc(a.Buffers, b.Buffers, isBuffer) && slices.Equal(a.Params, b.Params) && slices.EqualFunc(a.Stmts, b.Stmts, sameStmt)
}

func sameStmt(a, b api.Stmt) bool {
	return a.Op == b.Op && a.Name == b.Name && a.Kind == b.Kind && a.Loop == b.Loop && slices.EqualFunc(a.Exprs, b.Exprs, expr.Same) && slices.Equal(a.Kids, b.Kids)
}
