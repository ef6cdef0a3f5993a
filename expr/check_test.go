package expr_test

import (
	"fmt"
	"math"
	"math/rand"
	"slices"
	"strings"
	"testing"

	"halation/api"
	"halation/expr"
	"halation/num"
)

// Promise P2.1.

func TestIsName(t *testing.T) {
	for _, s := range []string{"x", "_", "A", "Z", "z", "a1", "_9", "aB_3", "select", strings.Repeat("a", 24), "abcdefghijklmnopqrstuvwx", "__________0123456789____"} {
		if !expr.IsName(s) {
			t.Errorf("%q is a name", s)
		}
	}
	for _, s := range []string{"", "9", "1a", " ", "a ", " a", "a b", "a-b", "a.b", "é", "aé", "x\xff", "\x00", "a\x00", "@", "[", "`", "{", "/a", ":", "a:", strings.Repeat("a", 25), strings.Repeat("é", 12)} {
		if expr.IsName(s) {
			t.Errorf("%q is no name", s)
		}
	}
	for b := range 256 {
		c := string([]byte{byte(b)})
		letter := b == '_' || b >= 'a' && b <= 'z' || b >= 'A' && b <= 'Z'
		if expr.IsName(c) != letter || expr.IsName("a"+c) != (letter || b >= '0' && b <= '9') {
			t.Errorf("the byte %d", b)
		}
	}
}

// resultOf returns the kind of an operation's results, by the document's words, and whether it is permitted.
func resultOf(op, kind int) (int, bool) {
	integer := kind >= api.U8 && kind <= api.I64
	real := kind != api.Bool && kind != api.C64
	switch op {
	case api.EAdd, api.ESub, api.EMul:
		return kind, kind != api.Bool
	case api.EDiv, api.EMin, api.EMax:
		return kind, real
	case api.EMod, api.EShl, api.EShr, api.ESatAdd, api.ESatSub, api.EAvg:
		return kind, integer
	case api.EAnd, api.EOr, api.EXor, api.ENot:
		return kind, integer || kind == api.Bool
	case api.EDist:
		return []int{0, 1, 2, 3, 4, 1, 2, 3, 4, 0, 0}[kind], integer
	case api.EEq, api.ENe:
		return api.Bool, true
	case api.ELt, api.ELe:
		return api.Bool, real
	}
	return 0, false
}

func TestResult(t *testing.T) {
	for _, op := range []int{math.MinInt, -1, api.EConst, api.EVar, api.EParam, api.ECall, api.EImage, api.ELoad, api.ECast, api.ESat, api.ESelect, api.ERamp, api.EReduce, api.Ops, math.MaxInt} {
		for _, kind := range []int{-1, api.U8, api.Kinds} {
			if k, e := expr.Result(op, kind); k != 0 || e != api.ErrUnknown {
				t.Error("no operation", op, kind, k, e)
			}
		}
	}
	for op := api.EAdd; op <= api.ENot; op++ {
		for _, kind := range []int{math.MinInt, -1, api.Kinds, math.MaxInt} {
			if k, e := expr.Result(op, kind); k != 0 || e != api.ErrKind {
				t.Error("no kind", op, kind, k, e)
			}
		}
		for kind := range api.Kinds {
			want, permitted := resultOf(op, kind)
			k, e := expr.Result(op, kind)
			if permitted && (k != want || e != api.OK) || !permitted && (k != 0 || e != api.ErrType) {
				t.Error("Result", op, kind, k, e)
			}
		}
	}
}

// wrongNode returns the first error of a node above right ones, by the document's words.
func wrongNode(e api.Expr, at int) api.Errno {
	n := e[at]
	if n.Op < 0 || n.Op >= api.Ops || n.Kind < 0 || n.Kind >= api.Kinds {
		return api.ErrKind
	}
	if named := n.Op >= api.EVar && n.Op <= api.ELoad; named && !expr.IsName(n.Name) || !named && n.Name != "" {
		return api.ErrName
	}
	combines := []uint64{api.EAdd, api.EMin, api.EMax, api.EAnd, api.EOr, api.EXor}
	switch {
	case n.Op == api.EConst && num.CheckValue(api.Value{Kind: n.Kind, Bits: n.Bits}) != api.OK:
		return api.ErrForm
	case n.Op == api.EReduce && !slices.Contains(combines, n.Bits):
		return api.ErrForm
	case n.Op != api.EConst && n.Op != api.EReduce && n.Bits != 0:
		return api.ErrForm
	}
	least, most := 2, 2
	switch n.Op {
	case api.EConst, api.EVar, api.EParam:
		least, most = 0, 0
	case api.ECall, api.EImage:
		least, most = 1, 3
	case api.ELoad, api.ENot, api.ECast, api.ESat, api.EBroadcast, api.EShuffle, api.EReduce:
		least, most = 1, 1
	case api.ESelect:
		least, most = 3, 3
	}
	if len(n.Kids) < least || len(n.Kids) > most {
		return api.ErrShape
	}
	after := at
	for i := len(n.Kids) - 1; i >= 0; i-- {
		if kid := n.Kids[i]; kid != after-1 || kid < 0 {
			return api.ErrOrder
		}
		after = firstNode(e, n.Kids[i])
	}
	if !rightKinds(e, n) {
		return api.ErrType
	}
	if !rightLanes(e, n) {
		return api.ErrVector
	}
	return api.OK
}

func firstNode(e api.Expr, at int) int {
	if len(e[at].Kids) == 0 {
		return at
	}
	return firstNode(e, e[at].Kids[0])
}

func rightKinds(e api.Expr, n api.Node) bool {
	var k [3]int
	for i, kid := range n.Kids {
		k[i] = e[kid].Kind
	}
	integer := func(kind int) bool { return kind >= api.U8 && kind <= api.I64 }
	switch n.Op {
	case api.EVar:
		return n.Kind == api.I32
	case api.EConst, api.EParam:
		return true
	case api.ECall, api.EImage, api.ELoad:
		for i := range n.Kids {
			if k[i] != api.I32 {
				return false
			}
		}
		return true
	case api.ECast:
		return k[0] != api.C64 || n.Kind == api.C64
	case api.ESat:
		return integer(n.Kind) && (integer(k[0]) || k[0] == api.F32)
	case api.ESelect:
		return k == [3]int{api.Bool, n.Kind, n.Kind}
	case api.ERamp:
		return k[0] == api.I32 && k[1] == api.I32 && n.Kind == api.I32
	case api.EBroadcast, api.EShuffle:
		return k[0] == n.Kind
	case api.EReduce:
		kind, permitted := resultOf(int(n.Bits), k[0])
		return permitted && kind == k[0] && n.Kind == kind
	}
	kind, permitted := resultOf(n.Op, k[0])
	return permitted && n.Kind == kind && (n.Op == api.ENot || k[0] == k[1])
}

func rightLanes(e api.Expr, n api.Node) bool {
	kid := func(i int) int { return e[n.Kids[i]].Lanes }
	if n.Op != api.EShuffle && len(n.Picks) != 0 {
		return false
	}
	switch n.Op {
	case api.EConst, api.EVar, api.EParam:
		return n.Lanes == 1
	case api.ERamp:
		return kid(0) == 1 && kid(1) == 1 && n.Lanes >= 2 && n.Lanes <= 32
	case api.EBroadcast:
		return kid(0) == 1 && n.Lanes >= 2 && n.Lanes <= 32
	case api.EShuffle:
		for _, p := range n.Picks {
			if p < 0 || p > kid(0)-1 {
				return false
			}
		}
		return n.Lanes == len(n.Picks) && n.Lanes >= 1 && n.Lanes <= 32
	case api.EReduce:
		return n.Lanes == 1 && kid(0) >= 2
	}
	for i := range n.Kids {
		if kid(i) != n.Lanes {
			return false
		}
	}
	return true
}

// wrongExpr returns the first error of an expression, by the document's words.
func wrongExpr(e api.Expr) api.Errno {
	switch {
	case len(e) == 0:
		return api.ErrEmpty
	case len(e) > 256:
		return api.ErrMany
	}
	for at := range e {
		if err := wrongNode(e, at); err != api.OK {
			return err
		}
	}
	if firstNode(e, len(e)-1) != 0 {
		return api.ErrForm
	}
	return api.OK
}

func TestCheckExamples(t *testing.T) {
	change := func(k int, n api.Node) api.Expr {
		e := example()
		e[k] = n
		return e
	}
	for i, x := range []struct {
		e    api.Expr
		want api.Errno
	}{
		{example(), api.OK},
		{change(2, node(api.EAdd, api.I32, "", 0, 1, 0)), api.ErrOrder},
		{change(1, node(api.EConst, api.U8, "", 3)), api.ErrType},
		{change(1, node(api.EConst, api.I32, "", 1<<32)), api.ErrForm},
		{api.Expr{example()[0], example()[1], example()[3], node(api.EMul, api.I32, "", 0, 1, 2)}, api.ErrForm},
		{nil, api.ErrEmpty}, {api.Expr{}, api.ErrEmpty},
		{chain(255), api.OK}, {chain(257), api.ErrMany}, {make(api.Expr, 257), api.ErrMany},
		{append(chain(255), node(api.ENot, api.I32, "", 0, 254)), api.OK},
		{append(chain(255), node(api.ENot, api.I32, "", 0, 253)), api.ErrOrder},
		{api.Expr{{}}, api.ErrVector}, {api.Expr{{Lanes: 1}}, api.OK},
		{api.Expr{node(api.EConst, api.I32, "", 1), node(api.EConst, api.I32, "", 2)}, api.ErrForm},
	} {
		if e := expr.Check(x.e); e != x.want {
			t.Errorf("Check %d: %v, want %v", i, e, x.want)
		}
	}
}

// TestCheckOrderOfErrors takes a node with all errors, and rights one after the other.
func TestCheckOrderOfErrors(t *testing.T) {
	wrong := api.Node{Op: 99, Kind: 99, Lanes: 7, Name: "x", Bits: 1, Picks: []int{1}, Kids: []int{1}}
	steps := []struct {
		want  api.Errno
		right func(n *api.Node)
	}{
		{api.ErrKind, func(n *api.Node) { n.Op = api.EAdd }},
		{api.ErrKind, func(n *api.Node) { n.Kind = api.U8 }},
		{api.ErrName, func(n *api.Node) { n.Name = "" }},
		{api.ErrForm, func(n *api.Node) { n.Bits = 0 }},
		{api.ErrShape, func(n *api.Node) { n.Kids = []int{1, 0} }},
		{api.ErrOrder, func(n *api.Node) { n.Kids = []int{0, 1} }},
		{api.ErrType, func(n *api.Node) { n.Kind = api.I32 }},
		{api.ErrVector, func(n *api.Node) { n.Lanes = 1 }},
		{api.ErrVector, func(n *api.Node) { n.Picks = nil }},
		{api.OK, func(*api.Node) {}},
	}
	n := wrong
	for i, step := range steps {
		e := api.Expr{integer(1)[0], integer(2)[0], n}
		if err := expr.Check(e); err != step.want {
			t.Errorf("step %d: %v, want %v", i, err, step.want)
		}
		if err := expr.Check(append(e, node(-1, -1, "?", 1))); step.want != api.OK && err != step.want {
			t.Errorf("step %d: the first node with an error does not decide: %v", i, err)
		}
		step.right(&n)
	}
}

// TestCheckKinds compares all kinds of kids and nodes with the table.
func TestCheckKinds(t *testing.T) {
	kids := map[int]int{api.ECall: 1, api.EImage: 1, api.ELoad: 1, api.ENot: 1, api.ECast: 1, api.ESat: 1, api.ESelect: 3, api.ERamp: 2, api.EBroadcast: 1, api.EShuffle: 1, api.EReduce: 1}
	for op := api.EAdd; op <= api.ELe; op++ {
		kids[op] = 2
	}
	check := func(op int, kind int, combine uint64, from ...int) {
		e := api.Expr{}
		n := vector(op, kind, 1)
		for _, k := range from {
			e = append(e, node(api.EConst, k, "", 0))
			if op == api.EReduce || op == api.EShuffle {
				e = append(e, vector(api.EBroadcast, k, 2, 0))
			}
			n.Kids = append(n.Kids, len(e)-1)
		}
		switch op {
		case api.ECall, api.EImage, api.ELoad:
			n.Name = "f"
		case api.ERamp, api.EBroadcast:
			n.Lanes = 2
		case api.EShuffle:
			n.Picks = []int{1}
		case api.EReduce:
			n.Bits = combine
		}
		e = append(e, n)
		want := api.ErrType
		if rightKinds(e, n) {
			want = api.OK
		}
		if err := expr.Check(e); err != want {
			t.Errorf("Op %d, kind %d, kids %v: %v, want %v", op, kind, from, err, want)
		}
	}
	for op, number := range kids {
		for kind := range api.Kinds {
			for a := range api.Kinds {
				switch {
				case op == api.EReduce:
					for _, combine := range []uint64{api.EAdd, api.EMin, api.EMax, api.EAnd, api.EOr, api.EXor} {
						check(op, kind, combine, a)
					}
				case number == 1:
					check(op, kind, 0, a)
				default:
					for b := range api.Kinds {
						if number == 2 {
							check(op, kind, 0, a, b)
							continue
						}
						for c := range api.Kinds {
							check(op, kind, 0, a, b, c)
						}
					}
				}
			}
		}
	}
	for kind := range api.Kinds {
		want := api.ErrType
		if kind == api.I32 {
			want = api.OK
		}
		if err := expr.Check(api.Expr{node(api.EVar, kind, "x", 0)}); err != want {
			t.Error("a variable", kind, err)
		}
		if err := expr.Check(api.Expr{node(api.EParam, kind, "x", 0)}); err != api.OK {
			t.Error("a parameter", kind, err)
		}
	}
}

func TestCheckLanes(t *testing.T) {
	for lanes := -1; lanes <= 34; lanes++ {
		several := api.OK
		if lanes < 2 || lanes > 32 {
			several = api.ErrVector
		}
		one := api.ErrVector
		if lanes == 1 {
			one = api.OK
		}
		spread := api.Expr{integer(1)[0], vector(api.EBroadcast, api.I32, lanes, 0)}
		ramp := api.Expr{integer(1)[0], integer(1)[0], vector(api.ERamp, api.I32, lanes, 0, 1)}
		picked := vector(api.EShuffle, api.I32, lanes, 0)
		for range lanes {
			picked.Picks = append(picked.Picks, 0)
		}
		pick := api.OK
		if lanes < 1 || lanes > 32 {
			pick = api.ErrVector
		}
		single := vector(api.ECall, api.I32, lanes, 0)
		single.Name = "f"
		for i, x := range []struct {
			e    api.Expr
			want api.Errno
		}{
			{spread, several}, {ramp, several}, {api.Expr{integer(1)[0], picked}, pick},
			{api.Expr{vector(api.EConst, api.I32, lanes)}, one}, {api.Expr{integer(1)[0], vector(api.ENot, api.I32, lanes, 0)}, one}, {api.Expr{integer(1)[0], single}, one},
			{append(copied(spread), vector(api.ENot, api.I32, lanes, 1)), several}, {append(copied(spread), vector(api.ENot, api.I32, 1, 1)), api.ErrVector},
			{append(copied(spread), node(api.EReduce, api.I32, "", api.EAdd, 1)), several},
			{append(copied(spread), vector(api.EBroadcast, api.I32, 2, 1)), api.ErrVector},
			{append(copied(spread), integer(1)[0], vector(api.EAdd, api.I32, lanes, 1, 2)), api.ErrVector},
			{append(api.Expr{integer(1)[0]}, vector(api.EShuffle, api.I32, 1, 0)), api.ErrVector},
			{append(api.Expr{integer(1)[0]}, node(api.EReduce, api.I32, "", api.EAdd, 0)), api.ErrVector},
		} {
			if err := expr.Check(x.e); err != x.want {
				t.Errorf("%d lanes, %d: %v, want %v", lanes, i, err, x.want)
			}
		}
	}
	four := api.Expr{integer(1)[0], vector(api.EBroadcast, api.I32, 4, 0)}
	for i, x := range []struct {
		n    api.Node
		want api.Errno
	}{
		{api.Node{Op: api.EShuffle, Kind: api.I32, Lanes: 2, Picks: []int{3, 0}, Kids: []int{1}}, api.OK},
		{api.Node{Op: api.EShuffle, Kind: api.I32, Lanes: 2, Picks: []int{4, 0}, Kids: []int{1}}, api.ErrVector},
		{api.Node{Op: api.EShuffle, Kind: api.I32, Lanes: 2, Picks: []int{0, -1}, Kids: []int{1}}, api.ErrVector},
		{api.Node{Op: api.EShuffle, Kind: api.I32, Lanes: 3, Picks: []int{0, 1}, Kids: []int{1}}, api.ErrVector},
		{api.Node{Op: api.EReduce, Kind: api.I32, Lanes: 4, Bits: api.EAdd, Kids: []int{1}}, api.ErrVector},
		{api.Node{Op: api.EReduce, Kind: api.I32, Lanes: 1, Bits: api.EAdd, Kids: []int{1}}, api.OK},
		{api.Node{Op: api.EReduce, Kind: api.I32, Lanes: 1, Bits: api.EMul, Kids: []int{1}}, api.ErrForm},
		{api.Node{Op: api.EReduce, Kind: api.I32, Lanes: 1, Bits: 1<<32 | api.EAdd, Kids: []int{1}}, api.ErrForm},
		{api.Node{Op: api.ENot, Kind: api.I32, Lanes: 4, Picks: []int{0}, Kids: []int{1}}, api.ErrVector},
		{api.Node{Op: api.ELoad, Kind: api.F32, Lanes: 4, Name: "b", Kids: []int{1}}, api.OK},
		{api.Node{Op: api.ELoad, Kind: api.F32, Lanes: 1, Name: "b", Kids: []int{1}}, api.ErrVector},
	} {
		if err := expr.Check(append(copied(four), x.n)); err != x.want {
			t.Errorf("%d: %v, want %v", i, err, x.want)
		}
	}
}

// mutated returns an expression with a field of a node changed.
func mutated(random *rand.Rand, e api.Expr) api.Expr {
	e = copied(e)
	n := &e[random.Intn(len(e))]
	number := func() int {
		return []int{-1, 0, 1, 2, 3, 11, 32, 33, 34, len(e), len(e) - 1, math.MinInt, math.MaxInt}[random.Intn(13)]
	}
	switch random.Intn(9) {
	case 0:
		n.Op = random.Intn(api.Ops)
	case 1:
		n.Op = number()
	case 2:
		n.Kind = random.Intn(api.Kinds)
	case 3:
		n.Kind = number()
	case 4:
		n.Lanes = number()
	case 5:
		n.Name = []string{"", "x", "9", "y z"}[random.Intn(4)]
	case 6:
		n.Bits = []uint64{0, 1, 1 << 31, 1 << 32, math.MaxUint64, api.EAdd, api.EMul}[random.Intn(7)]
	case 7:
		if len(n.Picks) == 0 || random.Intn(3) == 0 {
			n.Picks = append(n.Picks, number())
		} else {
			n.Picks[random.Intn(len(n.Picks))] = number()
		}
	case 8:
		switch {
		case len(n.Kids) == 0 || random.Intn(4) == 0:
			n.Kids = append(n.Kids, number())
		case random.Intn(3) == 0:
			n.Kids = n.Kids[1:]
		default:
			n.Kids[random.Intn(len(n.Kids))] = number()
		}
	}
	return e
}

func TestCheckMutated(t *testing.T) {
	random := rand.New(rand.NewSource(5))
	seen := map[api.Errno]int{}
	for seed := range int64(madeExprs) {
		e := makeExpr(seed, true)
		for range 12 {
			wrong := mutated(random, e)
			if random.Intn(4) == 0 {
				wrong = mutated(random, wrong)
			}
			want := wrongExpr(wrong)
			seen[want]++
			if err := expr.Check(wrong); err != want {
				t.Fatalf("Check: %v, want %v: %v", err, want, wrong)
			}
		}
	}
	for _, want := range []api.Errno{api.OK, api.ErrKind, api.ErrName, api.ErrForm, api.ErrShape, api.ErrOrder, api.ErrType, api.ErrVector} {
		if seen[want] < 100 {
			t.Error("an error is rare", want, seen[want])
		}
	}
}

func TestKind(t *testing.T) {
	for seed := range int64(200) {
		e := makeExpr(seed, true)
		whole := e[len(e)-1]
		if kind, lanes, err := expr.Kind(e); kind != whole.Kind || lanes != whole.Lanes || err != api.OK {
			t.Fatal("Kind", kind, lanes, err, e)
		}
	}
	for _, wrong := range wrongExprs() {
		if kind, lanes, err := expr.Kind(wrong); kind != 0 || lanes != 0 || err != wrongExpr(wrong) {
			t.Error("Kind of no expression", kind, lanes, err, wrong)
		}
	}
}

// wrongExprs returns expressions with different errors.
func wrongExprs() []api.Expr {
	return []api.Expr{
		nil, make(api.Expr, 257), {node(99, 0, "", 0)}, {node(api.EVar, api.I32, "", 0)}, {node(api.EConst, api.U8, "", 256)},
		{node(api.EAdd, api.I32, "", 0)}, {node(api.ENot, api.I32, "", 0, 0)}, {node(api.EVar, api.U8, "x", 0)}, {vector(api.EConst, api.U8, 2)},
		{node(api.EConst, api.U8, "", 1), node(api.EConst, api.U8, "", 1)},
	}
}

// TestNothingPanics is promise P1 of the document for this layer.
func TestNothingPanics(t *testing.T) {
	random := rand.New(rand.NewSource(6))
	for seed := range int64(400) {
		a := mutated(random, makeExpr(seed, true))
		b := mutated(random, mutated(random, makeExpr(seed+1, true)))
		n := random.Intn(300) - 20
		name := fmt.Sprint("x", n)
		expr.Check(a)
		expr.Kind(a)
		expr.First(a, n)
		expr.Sub(a, n)
		expr.Replace(a, n, b)
		expr.Binary(n, a, b)
		expr.Cast(api.ECast, n, a)
		expr.Select(a, b, a)
		expr.Call(api.ECall, n, name, []api.Expr{a, b})
		expr.Free(a)
		expr.Uses(a, n)
		expr.Subst(a, name, b)
		expr.Same(a, b)
		expr.Eval(a, bindings(seed))
		expr.Fold(a)
		expr.Integer(n)
		expr.Const(api.Value{Kind: n, Bits: uint64(n)})
		expr.Var(name)
	}
}
