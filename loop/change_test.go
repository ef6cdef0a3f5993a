package loop_test

import (
	"slices"
	"strings"
	"testing"

	"halation/api"
	"halation/loop"
	"halation/sample"
)

// Promises P18.2 and P18.4.

// uses returns how often a name is used, or declared, for a variable, a buffer or a parameter.
func uses(p api.Program, name string) int {
	count := 0
	add := func(s string) {
		if s == name && s != "" {
			count++
		}
	}
	for _, b := range p.Buffers {
		add(b.Name)
	}
	for _, x := range p.Params {
		add(x.Name)
	}
	for _, s := range p.Stmts {
		if s.Op != api.SMark && s.Op != api.SAssert {
			add(s.Name)
		}
		for _, e := range s.Exprs {
			for _, n := range e {
				add(n.Name)
			}
		}
	}
	return count
}

// others returns the names of marks and assertions.
func others(p api.Program) []string {
	var out []string
	for _, s := range p.Stmts {
		if s.Op == api.SMark || s.Op == api.SAssert {
			out = append(out, s.Name)
		}
	}
	return out
}

// TestRenamed renames all names of programs there and back.
func TestRenamed(t *testing.T) {
	t.Parallel()
	renamed := 0
	for seed := range int64(300) {
		m := maker(seed)
		p := m.Program()
		names := sample.Names(p)
		for _, from := range names {
			n := uses(p, from)
			out, err := loop.Renamed(p, from, "other")
			if n == 0 {
				if err != api.ErrUnknown || len(out.Stmts) > 0 {
					t.Fatal(seed, from, err)
				}
				continue
			}
			if _, wrong := loop.Check(out); wrong != api.OK || err != api.OK || uses(out, from) != 0 || uses(out, "other") != n || !slices.Equal(others(out), others(p)) {
				t.Fatal(seed, from, err, wrong)
			}
			back, err := loop.Renamed(out, "other", from)
			if err != api.OK || !same(back, p) {
				t.Fatal(seed, "back", from, err)
			}
			if itself, err := loop.Renamed(p, from, from); err != api.OK || !same(itself, p) {
				t.Fatal(seed, "to itself", from, err)
			}
			to := names[m.Intn(len(names))]
			_, err = loop.Renamed(p, from, to)
			want := api.OK
			switch {
			case to == "" || to == "9x":
				want = api.ErrName
			case to != from && uses(p, to) > 0:
				want = api.ErrTwice
			}
			if err != want {
				t.Fatal(seed, from, to, err, "not", want)
			}
			renamed++
		}
	}
	if renamed < 1000 {
		t.Error("rare", renamed)
	}
	p := parsed(t, head+"block {\n  for b ; 0 ; 1 {\n    mark b {\n      store out ; b ; 1u8\n    }\n  }\n  alloc b u8 1 {\n    store b ; 0 ; a{0}\n  }\n  assert b 1 < 2\n}\n")
	want := head + "block {\n  for c ; 0 ; 1 {\n    mark b {\n      store out ; c ; 1u8\n    }\n  }\n  alloc c u8 1 {\n    store c ; 0 ; a{0}\n  }\n  assert b 1 < 2\n}\n"
	out, _ := loop.Renamed(p, "b", "c")
	if s, err := loop.Print(out); s != want || err != api.OK {
		t.Error("a variable and a buffer with one name", s)
	}
	if out, err := loop.Renamed(p, "b", strings.Repeat("b", 25)); err != api.ErrName || len(out.Stmts) > 0 {
		t.Error("a long name", err)
	}
	if _, err := loop.Renamed(p, "nowhere", "9"); err != api.ErrUnknown {
		t.Error("the first error", err)
	}
}

// node is a statement with its kids, as a tree.
type node struct {
	api.Stmt
	kids []*node
}

func grown(l []api.Stmt, at int) *node {
	out := &node{Stmt: l[at]}
	for _, kid := range l[at].Kids {
		out.kids = append(out.kids, grown(l, kid))
	}
	return out
}

// flat returns the statements of a tree in post-order.
func (n *node) flat() []api.Stmt {
	var out []api.Stmt
	s := n.Stmt
	s.Kids = nil
	for _, kid := range n.kids {
		start := len(out)
		for _, x := range kid.flat() {
			kids := slices.Clone(x.Kids)
			for i := range kids {
				kids[i] += start
			}
			x.Kids = kids
			out = append(out, x)
		}
		s.Kids = append(s.Kids, len(out)-1)
	}
	return append(out, s)
}

// replaced returns a tree in which the statement with an index has become another one.
func replaced(l []api.Stmt, at, whole int, by *node) *node {
	if whole == at {
		return by
	}
	out := &node{Stmt: l[whole]}
	for _, kid := range l[whole].Kids {
		out.kids = append(out.kids, replaced(l, at, kid, by))
	}
	return out
}

// TestReplaced puts statements of programs into other ones, and compares with trees.
func TestReplaced(t *testing.T) {
	t.Parallel()
	right := 0
	for seed := range int64(600) {
		m := maker(seed)
		p, q := m.Program(), m.Program()
		for at := range p.Stmts {
			first, _ := loop.First(p, at)
			itself := (&node{Stmt: p.Stmts[at], kids: grown(p.Stmts, at).kids}).flat()
			if len(itself) != at-first+1 {
				t.Fatal(seed, "the test")
			}
			if out, err := loop.Replaced(p, at, itself); err != api.OK || !same(out, p) {
				t.Fatal(seed, "by itself", at, err)
			}
		}
		at, from := m.Intn(len(p.Stmts)), m.Intn(len(q.Stmts))
		if m.Intn(2) == 0 {
			q, from = p, m.Intn(len(p.Stmts))
		}
		by := grown(q.Stmts, from)
		want := p
		want.Stmts = replaced(p.Stmts, at, len(p.Stmts)-1, by).flat()
		_, wantErr := loop.Check(want)
		out, err := loop.Replaced(p, at, by.flat())
		if err != wantErr || err == api.OK && !same(out, want) || err != api.OK && len(out.Stmts)+len(out.Buffers) > 0 {
			t.Fatal(seed, at, from, err, "not", wantErr)
		}
		if err == api.OK {
			right++
		}
	}
	if right < 100 || right == 600 {
		t.Error("rare", right)
	}
}

// TestReplacedByWhatIsNone has statements that are no whole.
func TestReplacedByWhatIsNone(t *testing.T) {
	p := parsed(t, head+"block {\n  copy a to host\n  for x ; 0 ; 4 {\n    store out ; x ; a{x}\n  }\n}\n")
	block := api.Stmt{Op: api.SBlock}
	mark := func(kid int) api.Stmt { return api.Stmt{Op: api.SMark, Name: "m", Kids: []int{kid}} }
	for i, x := range []struct {
		at  int
		by  []api.Stmt
		err api.Errno
	}{
		{3, nil, api.ErrEmpty}, {2, nil, api.ErrOrder}, {1, nil, api.ErrOrder}, {0, nil, api.ErrOrder},
		{-1, nil, api.ErrUnknown}, {4, nil, api.ErrUnknown},
		{2, []api.Stmt{block, block}, api.ErrOrder}, {3, []api.Stmt{block, block}, api.ErrForm},
		{2, []api.Stmt{mark(-1)}, api.ErrOrder}, {2, []api.Stmt{mark(0)}, api.ErrOrder}, {2, []api.Stmt{block, mark(0)}, api.OK},
		{2, []api.Stmt{block, mark(1)}, api.ErrOrder}, {2, []api.Stmt{block, mark(-1)}, api.ErrOrder}, {2, []api.Stmt{mark(-1 << 63)}, api.ErrOrder}, {2, []api.Stmt{mark(1<<63 - 1)}, api.ErrOrder},
		{2, []api.Stmt{{Op: api.SStore, Name: "x", Exprs: []api.Expr{constant(0), value(api.U8, 1)}}}, api.ErrUnknown},
		{1, []api.Stmt{{Op: api.SLet, Name: "x"}}, api.ErrShape},
		{1, []api.Stmt{block, {Op: api.SLet, Name: "x", Exprs: []api.Expr{constant(0)}, Kids: []int{0}}}, api.ErrTwice},
		{0, []api.Stmt{{Op: api.SCopy, Name: "a", Loop: 1}}, api.OK},
	} {
		if out, err := loop.Replaced(p, x.at, x.by); err != x.err || err != api.OK && len(out.Stmts) > 0 {
			t.Error(i, err, "not", x.err)
		}
	}
}

// TestKids looks whether each statement but the last one is the kid of just one.
func TestKids(t *testing.T) {
	for seed := range int64(100) {
		p := maker(seed).Program()
		kids := map[int]int{}
		for at, s := range p.Stmts {
			for _, kid := range s.Kids {
				kids[kid]++
				if up, err := loop.Parent(p, kid); up != at || err != api.OK {
					t.Fatal(seed, kid, up, err)
				}
			}
		}
		for at := range p.Stmts {
			if want := min(1, len(p.Stmts)-1-at); kids[at] != want {
				t.Fatal(seed, at, kids[at])
			}
		}
	}
}
