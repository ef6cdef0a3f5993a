package pipe_test

import (
	"slices"
	"testing"

	"halation/api"
	"halation/pipe"
)

// Promise P5.2.

// eachNode calls f for all nodes of a function's expressions.
func eachNode(fn api.Func, f func(n api.Node)) {
	l := []api.Expr{fn.Value}
	for _, u := range fn.Updates {
		l = append(append(l, u.Left...), u.Value, u.Where)
	}
	for _, e := range l {
		for _, n := range e {
			f(n)
		}
	}
}

// namedIn reports whether a function has a node with an Op and a name.
func namedIn(fn api.Func, op int, name string) bool {
	found := false
	eachNode(fn, func(n api.Node) { found = found || n.Op == op && n.Name == name })
	return found
}

func TestUsesNamed(t *testing.T) {
	p := larger()
	for f, want := range []struct{ uses, users, images []int }{
		{nil, []int{1, 2, 3}, []int{0}}, {[]int{0}, nil, []int{1}}, {[]int{0}, []int{3}, nil}, {[]int{0, 2}, nil, nil},
	} {
		uses, e1 := pipe.Uses(p, f)
		users, e2 := pipe.Users(p, f)
		images, e3 := pipe.Images(p, f)
		if !slices.Equal(uses, want.uses) || !slices.Equal(users, want.users) || !slices.Equal(images, want.images) || e1 != api.OK || e2 != api.OK || e3 != api.OK {
			t.Error("Uses, Users, Images", f, uses, users, images, e1, e2, e3)
		}
	}
	dead, err := pipe.Dead(p)
	if !slices.Equal(dead, []int{1}) || err != api.OK {
		t.Error("Dead", dead, err)
	}
	if n, err := pipe.Size(example()); n != 21 || err != api.OK {
		t.Error("Size", n, err)
	}
	for _, f := range []int{-1, 4, 1 << 62, -1 << 63} {
		_, e1 := pipe.Uses(p, f)
		_, e2 := pipe.Users(p, f)
		_, e3 := pipe.Images(p, f)
		if e1 != api.ErrUnknown || e2 != api.ErrUnknown || e3 != api.ErrUnknown {
			t.Error("no such function", f, e1, e2, e3)
		}
	}
}

// TestUsesInEachPart has calls and inputs that stand in one part of an update alone.
func TestUsesInEachPart(t *testing.T) {
	base := api.Pipeline{Name: "p", Inputs: []api.Input{{Name: "in", Kind: api.I32, Dims: 1}}}
	base.Funcs = []api.Func{{Name: "f", Args: []string{"x"}, Kind: api.I32, Value: exprOf(base, "x")}}
	base.Funcs = append(base.Funcs, api.Func{Name: "g", Args: []string{"x"}, Kind: api.I32, Value: exprOf(base, "x")})
	plain := []string{"x", "x + 0", "1", ""}
	for part, texts := range [][]string{{"f(in[x])", "x", "1", ""}, {"x", "f(in[1])", "1", ""}, {"x", "x", "f(in[x])", ""}, {"x", "x", "1", "f(in[x]) == 1"}, plain} {
		p := copied(base)
		p.Funcs[1].Value = exprOf(p, texts[0])
		p.Funcs[1].Updates = []api.Update{update(p, []string{texts[1]}, texts[2], texts[3])}
		var want []int
		if part < 4 {
			want = []int{0}
		} else {
			p.Funcs[1].Updates[0].Left[0] = exprOf(p, "0")
		}
		uses, e1 := pipe.Uses(p, 1)
		users, e2 := pipe.Users(p, 0)
		images, e3 := pipe.Images(p, 1)
		dead, e4 := pipe.Dead(p)
		if !slices.Equal(uses, want) || !slices.Equal(images, want) || len(users) != len(want) || len(dead) != 1-len(want) || e1+e2+e3+e4 != api.OK {
			t.Error("part", part, uses, users, images, dead, e1, e2, e3, e4)
		}
	}
}

// TestUsesMade compares with the document's words on made pipelines.
func TestUsesMade(t *testing.T) {
	for seed := range int64(madePipelines) {
		p := makePipeline(seed)
		kept, size := copied(p), 0
		needed := make([]bool, len(p.Funcs))
		needed[len(needed)-1] = true
		for range p.Funcs { // as long as something changes
			for f, fn := range p.Funcs {
				for g, other := range p.Funcs {
					if needed[f] && namedIn(fn, api.ECall, other.Name) {
						needed[g] = true
					}
				}
			}
		}
		var dead []int
		for f, fn := range p.Funcs {
			eachNode(fn, func(api.Node) { size++ })
			var uses, users, images []int
			for g, other := range p.Funcs {
				if f != g && namedIn(fn, api.ECall, other.Name) {
					uses = append(uses, g)
				}
				if f != g && namedIn(other, api.ECall, fn.Name) {
					users = append(users, g)
				}
			}
			for i, in := range p.Inputs {
				if namedIn(fn, api.EImage, in.Name) {
					images = append(images, i)
				}
			}
			if !needed[f] {
				dead = append(dead, f)
			}
			gotUses, e1 := pipe.Uses(p, f)
			gotUsers, e2 := pipe.Users(p, f)
			gotImages, e3 := pipe.Images(p, f)
			if !slices.Equal(gotUses, uses) || !slices.Equal(gotUsers, users) || !slices.Equal(gotImages, images) || e1+e2+e3 != api.OK {
				t.Fatal("Uses, Users, Images", seed, f, gotUses, gotUsers, gotImages)
			}
			if len(uses) > 0 && uses[len(uses)-1] >= f {
				t.Fatal("what is used comes before its users", seed, f, uses)
			}
		}
		gotDead, e1 := pipe.Dead(p)
		gotSize, e2 := pipe.Size(p)
		if !slices.Equal(gotDead, dead) || gotSize != size || e1+e2 != api.OK {
			t.Fatal("Dead, Size", seed, gotDead, dead, gotSize, size)
		}
		pruned, err := pipe.Prune(p)
		wanted := copied(p)
		wanted.Funcs = slices.DeleteFunc(wanted.Funcs, func(f api.Func) bool {
			at := slices.IndexFunc(p.Funcs, func(g api.Func) bool { return g.Name == f.Name })
			return !needed[at]
		})
		if !equal(pruned, wanted) || err != api.OK {
			t.Fatal("Prune", seed, pruned, err)
		}
		spoilAll(&pruned)
		if !equal(p, kept) {
			t.Fatal("Prune shares memory", seed)
		}
	}
}

// spoilAll changes everything that a pipeline holds.
func spoilAll(p *api.Pipeline) {
	spoilExpr := func(e api.Expr) {
		for i := range e {
			for j := range e[i].Kids {
				e[i].Kids[j] = -7
			}
			for j := range e[i].Picks {
				e[i].Picks[j] = -7
			}
			e[i].Name = "spoilt"
		}
	}
	for i := range p.Inputs {
		p.Inputs[i].Name = "spoilt"
	}
	for i := range p.Params {
		p.Params[i].Name = "spoilt"
	}
	for i := range p.Funcs {
		f := &p.Funcs[i]
		f.Name = "spoilt"
		for j := range f.Args {
			f.Args[j] = "spoilt"
		}
		spoilExpr(f.Value)
		for j := range f.Updates {
			u := &f.Updates[j]
			for k := range u.Left {
				spoilExpr(u.Left[k])
				u.Left[k] = nil
			}
			for k := range u.Domain {
				u.Domain[k].Name = "spoilt"
			}
			spoilExpr(u.Value)
			spoilExpr(u.Where)
			u.Value = nil
		}
		f.Value = nil
	}
}
