package sched_test

import (
	"fmt"
	"math/rand"
	"slices"
	"strings"
	"testing"

	"halation/api"
	"halation/expr"
	"halation/lang"
	"halation/sched"
)

// row is a row of the document's table.
type row struct {
	word       string
	least      int // variables
	most       int
	factor     int // at most, 0 if there is none
	tail       bool
	at, low    bool
	isOfStages bool
}

var rows = [...]row{
	api.Split:       {word: "split", least: 3, most: 3, factor: 64, tail: true, isOfStages: true},
	api.Fuse:        {word: "fuse", least: 3, most: 3, isOfStages: true},
	api.Reorder:     {word: "reorder", least: 2, most: 24, isOfStages: true},
	api.Rename:      {word: "rename", least: 2, most: 2, isOfStages: true},
	api.Unroll:      {word: "unroll", least: 1, most: 1, isOfStages: true},
	api.Vectorize:   {word: "vectorize", least: 1, most: 1, isOfStages: true},
	api.Parallel:    {word: "parallel", least: 1, most: 1, isOfStages: true},
	api.Blocks:      {word: "blocks", least: 1, most: 1, isOfStages: true},
	api.Threads:     {word: "threads", least: 1, most: 1, isOfStages: true},
	api.ComputeRoot: {word: "compute_root"},
	api.ComputeAt:   {word: "compute_at", least: 1, most: 1, at: true},
	api.StoreRoot:   {word: "store_root"},
	api.StoreAt:     {word: "store_at", least: 1, most: 1, at: true},
	api.Fold:        {word: "fold", least: 1, most: 1, factor: 64},
	api.Bound:       {word: "bound", least: 1, most: 1, factor: 64, low: true},
	api.Memoize:     {word: "memoize"},
}

var tails = []string{"round_up", "guard", "shift", "exact"}

// oracleCheck is CheckDirective in the document's words.
func oracleCheck(d api.Directive) api.Errno {
	if d.Op < 0 || d.Op > 15 {
		return api.ErrUnknown
	}
	r := rows[d.Op]
	if !expr.IsName(d.Func) {
		return api.ErrName
	}
	if d.Stage < 0 || d.Stage > 3 {
		return api.ErrRange
	}
	if !r.isOfStages && d.Stage != 0 {
		return api.ErrState
	}
	if len(d.Vars) < r.least || len(d.Vars) > r.most {
		return api.ErrShape
	}
	seen := map[string]bool{}
	for _, v := range d.Vars {
		if !expr.IsName(v) {
			return api.ErrName
		}
		if seen[v] {
			return api.ErrTwice
		}
		seen[v] = true
	}
	if r.factor > 0 && (d.Factor < 1 || d.Factor > r.factor) || r.factor == 0 && d.Factor != 0 {
		return api.ErrRange
	}
	if d.Tail < 0 || d.Tail > 3 || !r.tail && d.Tail != 0 {
		return api.ErrTail
	}
	if r.low && (d.Low < -1<<20 || d.Low > 1<<20) || !r.low && d.Low != 0 {
		return api.ErrRange
	}
	if r.at && !expr.IsName(d.At) || !r.at && d.At != "" {
		return api.ErrName
	}
	return api.OK
}

// oracleLine is the line of a right directive.
func oracleLine(d api.Directive) string {
	r := rows[d.Op]
	s := d.Func
	if r.isOfStages {
		s += fmt.Sprintf(".%d", d.Stage)
	}
	s += " " + r.word
	if r.at {
		s += " " + d.At
	}
	for _, v := range d.Vars {
		s += " " + v
	}
	if r.low {
		s += fmt.Sprint(" ", d.Low)
	}
	if r.factor > 0 {
		s += fmt.Sprint(" ", d.Factor)
	}
	if r.tail {
		s += " " + tails[d.Tail]
	}
	return s
}

func excludes(a, b api.Directive) bool {
	pair := func(x, y int) bool { return (a.Op == x || a.Op == y) && (b.Op == x || b.Op == y) }
	if a.Func != b.Func {
		return false
	}
	return pair(api.ComputeRoot, api.ComputeAt) || pair(api.StoreRoot, api.StoreAt) || pair(api.Memoize, api.Memoize) ||
		(pair(api.Fold, api.Fold) || pair(api.Bound, api.Bound)) && a.Vars[0] == b.Vars[0]
}

func oracleSchedule(s api.Schedule) (int, api.Errno) {
	if len(s) > 64 {
		return 0, api.ErrMany
	}
	for i, d := range s {
		if err := oracleCheck(d); err != api.OK {
			return i, err
		}
		for _, e := range s[:i] {
			if excludes(d, e) {
				return i, api.ErrTwice
			}
		}
	}
	return 0, api.OK
}

func same(a, b api.Directive) bool {
	vars := slices.Equal(a.Vars, b.Vars)
	return vars && a.Func == b.Func && a.Stage == b.Stage && a.Op == b.Op && a.Factor == b.Factor && a.Tail == b.Tail && a.Low == b.Low && a.At == b.At
}

func sameSchedules(a, b api.Schedule) bool { return slices.EqualFunc(a, b, same) }

// makeDirective makes a right directive about one of some functions.
func makeDirective(r *rand.Rand, funcs, vars []string) api.Directive {
	d := api.Directive{Func: funcs[r.Intn(len(funcs))], Op: r.Intn(api.Directives)}
	x := rows[d.Op]
	if x.isOfStages {
		d.Stage = r.Intn(4)
	}
	count := x.least + r.Intn(min(x.most-x.least, len(vars)-x.least)+1)
	for _, i := range r.Perm(len(vars))[:count] {
		d.Vars = append(d.Vars, vars[i])
	}
	if x.factor > 0 {
		d.Factor = []int{1, 2, 7, 10, x.factor}[r.Intn(5)]
	}
	if x.tail {
		d.Tail = r.Intn(4)
	}
	if x.low {
		d.Low = []int{-1 << 20, -10, -1, 0, 1, 1 << 20}[r.Intn(6)]
	}
	if x.at {
		d.At = funcs[r.Intn(len(funcs))]
	}
	return d
}

var someVars = []string{"x", "y", "z", "xo", "_", "split", strings.Repeat("v", 24), "a1", "b", "c"}

// makeSchedule makes a right schedule.
func makeSchedule(r *rand.Rand, funcs []string, count int) api.Schedule {
	var s api.Schedule
	for range count {
		d := makeDirective(r, funcs, someVars)
		if !slices.ContainsFunc(s, func(e api.Directive) bool { return excludes(d, e) }) {
			s = append(s, d)
		}
	}
	return s
}

func TestWordsOfOps(t *testing.T) {
	for op := -3; op < 40; op++ {
		word, err := sched.Word(op)
		if op < 0 || op > 15 {
			if word != "" || err != api.ErrUnknown {
				t.Error("Word", op, word, err)
			}
			continue
		}
		back, err2 := sched.Op(word)
		if word != rows[op].word || err != api.OK || back != op || err2 != api.OK {
			t.Error("Word, Op", op, word, err, back, err2)
		}
	}
	for _, s := range []string{"", "Split", "split ", "guard", "compute", "compute_root_", "\x00"} {
		if op, err := sched.Op(s); op != 0 || err != api.ErrUnknown {
			t.Error("Op", s, op, err)
		}
	}
	for tail := -2; tail < 9; tail++ {
		word, err := sched.TailWord(tail)
		if tail < 0 || tail > 3 {
			if word != "" || err != api.ErrUnknown {
				t.Error("TailWord", tail, word, err)
			}
		} else if word != tails[tail] || err != api.OK {
			t.Error("TailWord", tail, word, err)
		}
	}
}

// TestCheckDirective changes one or two fields of right directives.
func TestCheckDirective(t *testing.T) {
	numbers := []int{0, 1, 2, 3, 4, -1, 63, 64, 65, 1 << 20, 1<<20 + 1, -1 << 20, -1<<20 - 1, 1 << 62, -1 << 63}
	strs := []string{"", "x", "9", "y z", "é", strings.Repeat("v", 24), strings.Repeat("v", 25)}
	seen := map[api.Errno]int{}
	for seed := range int64(30000) {
		r := rand.New(rand.NewSource(seed))
		d := makeDirective(r, []string{"f", "g"}, someVars)
		for range r.Intn(3) {
			n, s := numbers[r.Intn(len(numbers))], strs[r.Intn(len(strs))]
			switch r.Intn(9) {
			case 0:
				d.Op = n
			case 1:
				d.Func = s
			case 2:
				d.Stage = n
			case 3:
				d.Vars = append(d.Vars, s)
			case 4:
				if len(d.Vars) > 0 {
					d.Vars[r.Intn(len(d.Vars))] = s
				}
			case 5:
				d.Factor = n
			case 6:
				d.Tail = n
			case 7:
				d.Low = n
			case 8:
				d.At = s
			}
		}
		want := oracleCheck(d)
		seen[want]++
		if err := sched.CheckDirective(d); err != want {
			t.Fatal(seed, d, err, want)
		}
		line, err := sched.PrintDirective(d)
		if err != want || err != api.OK && line != "" || err == api.OK && line != oracleLine(d) {
			t.Fatal("PrintDirective", seed, d, line, err)
		}
		at, err := sched.Check(api.Schedule{d})
		if at != 0 || err != want {
			t.Fatal("Check", seed, d, at, err)
		}
	}
	for _, err := range []api.Errno{api.OK, api.ErrUnknown, api.ErrName, api.ErrRange, api.ErrState, api.ErrShape, api.ErrTwice, api.ErrTail} {
		if seen[err] < 40 {
			t.Error("rare", err, seen)
		}
	}
}

// TestOrderOfErrors takes the errors of a directive away one after the other.
func TestOrderOfErrors(t *testing.T) {
	d := api.Directive{Func: "", Stage: 4, Op: 16, Vars: []string{"x", "9", "x"}, Factor: 65, Tail: 4, Low: 1, At: "g"}
	for i, x := range []struct {
		mend func()
		want api.Errno
	}{
		{func() {}, api.ErrUnknown}, {func() { d.Op = api.Bound }, api.ErrName}, {func() { d.Func = "f" }, api.ErrRange}, {func() { d.Stage = 3 }, api.ErrState}, {func() { d.Stage = 0 }, api.ErrShape}, {func() { d.Vars = []string{"9"} }, api.ErrName}, {func() { d.Vars = []string{"x"} }, api.ErrRange}, {func() { d.Factor = 64 }, api.ErrTail}, {func() { d.Tail = 0; d.Low = 1<<20 + 1 }, api.ErrRange}, {func() { d.Low = 0 }, api.ErrName}, {func() { d.At = "" }, api.OK},
		{func() { d = api.Directive{Func: "f", Op: api.Reorder, Vars: []string{"x", "x", "9"}} }, api.ErrTwice}, {func() { d.Vars = []string{"x", "9", "x"} }, api.ErrName}, {func() { d.Vars = slices.Repeat([]string{"x"}, 25) }, api.ErrShape}, {func() { d.Vars = slices.Repeat([]string{"x"}, 24) }, api.ErrTwice},
	} {
		x.mend()
		if err := sched.CheckDirective(d); err != x.want {
			t.Error(i, err, x.want)
		}
	}
}

// TestCheck has right and wrong directives, and those that exclude each other.
func TestCheck(t *testing.T) {
	twice, ok := 0, 0
	for seed := range int64(12000) {
		r := rand.New(rand.NewSource(seed))
		var s api.Schedule
		for range r.Intn(6) {
			d := makeDirective(r, []string{"f", "g"}, []string{"x", "y", "z"})
			if r.Intn(20) == 0 {
				d.Low++
			}
			s = append(s, d)
		}
		wantAt, want := oracleSchedule(s)
		if at, err := sched.Check(s); at != wantAt || err != want {
			t.Fatal(seed, s, at, err, wantAt, want)
		}
		text, err := sched.Print(s)
		l, err2 := sched.Loops(s, "9", 9)
		plan, err3 := sched.Plan(s, "9")
		rest, err4 := sched.Without(s, "9")
		wantName := api.ErrName
		if want != api.OK {
			wantName = want
		}
		if err != want || err2 != wantName || err3 != wantName || err4 != wantName || want != api.OK && text != "" || l != nil || rest != nil || plan.Folds != nil {
			t.Fatal("the others", seed, err, err2, err3, err4)
		}
		switch want {
		case api.OK:
			ok++
		case api.ErrTwice:
			twice++
		}
	}
	if twice < 300 || ok < 5000 {
		t.Error("rare", twice, ok)
	}
	one := api.Directive{Func: "f", Op: api.Unroll, Vars: []string{"x"}}
	if at, err := sched.Check(slices.Repeat(api.Schedule{one}, 64)); at != 0 || err != api.OK {
		t.Error("sixty-four", at, err)
	}
	if at, err := sched.Check(slices.Repeat(api.Schedule{one}, 65)); at != 0 || err != api.ErrMany {
		t.Error("sixty-five", at, err)
	}
	if at, err := sched.Check(make(api.Schedule, 65)); at != 0 || err != api.ErrMany {
		t.Error("many wrong ones", at, err)
	}
}

// exprOf returns the expression of a text.
func exprOf(s string) api.Expr {
	e, _, err := lang.Parse(s, nil)
	if err != api.OK {
		panic(s)
	}
	return e
}

// example returns the document's P.
func example() api.Pipeline {
	x, y := exprOf("x"), exprOf("y")
	blur := api.Func{Name: "blur", Args: []string{"x", "y"}, Kind: api.I32, Value: x}
	out := api.Func{Name: "out", Args: []string{"x", "y"}, Kind: api.I32, Value: exprOf("blur.i32(x, y)")}
	out.Updates = []api.Update{{Left: []api.Expr{x, y}, Value: exprOf("out.i32(x, y) + 1")}}
	return api.Pipeline{Name: "p", Funcs: []api.Func{blur, out}}
}

var exampleLines = []string{"out.0 split x xo xi 8 guard", "out.0 reorder xi y xo", "blur compute_at out xo", "blur store_root", "blur fold x 16", "blur.0 vectorize x"}

func textOf(l []string) string {
	if len(l) == 0 {
		return ""
	}
	return strings.Join(l, "\n") + "\n"
}

func parsed(t *testing.T, lines ...string) api.Schedule {
	t.Helper()
	s, at, err := sched.Parse(textOf(lines))
	if at != 0 || err != api.OK {
		t.Fatal(lines, at, err)
	}
	return s
}

func TestExamples(t *testing.T) {
	p, s := example(), parsed(t, exampleLines...)
	want := api.Schedule{
		{Func: "out", Op: api.Split, Vars: []string{"x", "xo", "xi"}, Factor: 8, Tail: api.Guard},
		{Func: "out", Op: api.Reorder, Vars: []string{"xi", "y", "xo"}},
		{Func: "blur", Op: api.ComputeAt, Vars: []string{"xo"}, At: "out"},
		{Func: "blur", Op: api.StoreRoot},
		{Func: "blur", Op: api.Fold, Vars: []string{"x"}, Factor: 16},
		{Func: "blur", Op: api.Vectorize, Vars: []string{"x"}},
	}
	if !sameSchedules(s, want) {
		t.Error("Parse", s)
	}
	if at, err := sched.CheckFor(p, s); at != 0 || err != api.OK {
		t.Error("CheckFor", at, err)
	}
	plan, err := sched.Plan(s, "blur")
	if err != api.OK || plan.Compute != (sched.Level{Kind: sched.AtLoop, Func: "out", Loop: "xo"}) || plan.Store != (sched.Level{Kind: sched.AtRoot}) || !slices.Equal(plan.Folds, []sched.Folding{{Var: "x", Factor: 16}}) || plan.Limits != nil || plan.Memo {
		t.Error("Plan", plan, err)
	}
	if plan, err := sched.Plan(s, "out"); err != api.OK || plan.Compute != (sched.Level{}) || plan.Store != (sched.Level{}) || plan.Folds != nil {
		t.Error("Plan", plan, err)
	}
	for stage, count := range []int{2, 0, 0, 0} {
		if l, err := sched.Loops(s, "out", stage); err != api.OK || !sameSchedules(l, want[:count]) {
			t.Error("Loops", stage, l, err)
		}
	}
	if l, err := sched.Inlines(p, s); len(l) != 0 || err != api.OK {
		t.Error("Inlines", l, err)
	}
	rest, err := sched.Without(s, "blur")
	in, err2 := sched.Inlines(p, rest)
	if !sameSchedules(rest, want[:2]) || !slices.Equal(in, []string{"blur"}) || err+err2 != api.OK {
		t.Error("Without", rest, in, err, err2)
	}
	normal, err := sched.Normal(p, s)
	if !sameSchedules(normal, slices.Concat(want[2:], want[:2])) || err != api.OK {
		t.Error("Normal", normal, err)
	}
	if at, err := sched.Check(parsed2(t, "blur compute_root")); at != 6 || err != api.ErrTwice {
		t.Error("twice", at, err)
	}
	if at, err := sched.CheckFor(p, parsed(t, append(slices.Clone(exampleLines), "out compute_root")...)); at != 6 || err != api.ErrKind {
		t.Error("the output", at, err)
	}
	s[2].At, s[2].Vars[0] = "blur", "x"
	if at, err := sched.CheckFor(p, s); at != 2 || err != api.ErrOrder {
		t.Error("in itself", at, err)
	}
}

// parsed2 returns the example with a further line, of which no schedule that is right becomes.
func parsed2(t *testing.T, line string) api.Schedule {
	t.Helper()
	d, err := sched.ParseDirective(line)
	if err != api.OK {
		t.Fatal(line, err)
	}
	return append(parsed(t, exampleLines...), d)
}

// longer returns a pipeline of five functions, one of which has three updates.
func longer() api.Pipeline {
	p := api.Pipeline{Name: "p", Inputs: []api.Input{{Name: "in", Kind: api.U8, Dims: 1}}}
	for _, name := range []string{"c", "a", "e", "b", "d"} {
		p.Funcs = append(p.Funcs, api.Func{Name: name, Args: []string{"x", "y"}, Kind: api.I32, Value: exprOf("x")})
	}
	u := api.Update{Left: []api.Expr{exprOf("x"), exprOf("y")}, Value: exprOf("1"), Domain: []api.Axis{{Name: "r", Range: api.Range{Extent: 2}}}}
	p.Funcs[1].Updates = []api.Update{u, u, u}
	p.Funcs[4].Updates = []api.Update{u}
	return p
}

func TestCheckFor(t *testing.T) {
	p := longer()
	for i, x := range []struct {
		line string
		err  api.Errno
	}{
		{"c.0 unroll q", api.OK}, {"c.1 unroll q", api.ErrUnknown}, {"a.3 unroll q", api.OK}, {"d.1 unroll q", api.OK}, {"d.2 unroll q", api.ErrUnknown}, {"f.0 unroll q", api.ErrUnknown}, {"in.0 unroll q", api.ErrUnknown}, {"p.0 unroll q", api.ErrUnknown}, {"f compute_root", api.ErrUnknown},
		{"b compute_root", api.OK}, {"d compute_root", api.ErrKind}, {"d store_root", api.ErrKind}, {"d compute_at f x", api.ErrKind}, {"d store_at d x", api.ErrKind}, {"d fold q 2", api.ErrKind}, {"d bound x 0 2", api.OK}, {"d bound r 0 2", api.ErrUnknown}, {"d memoize", api.OK}, {"d.0 parallel x", api.OK},
		{"a compute_at f x", api.ErrUnknown}, {"a compute_at in x", api.ErrUnknown}, {"a compute_at a x", api.ErrOrder}, {"a compute_at c x", api.ErrOrder}, {"a compute_at e q", api.OK}, {"a compute_at d q", api.OK}, {"a store_at f x", api.ErrUnknown}, {"a store_at c x", api.ErrOrder}, {"a store_at a x", api.ErrOrder}, {"a store_at b x", api.OK},
		{"a fold x 2", api.OK}, {"a fold y 2", api.OK}, {"a fold r 2", api.ErrUnknown}, {"a fold q 2", api.ErrUnknown}, {"c bound z 0 2", api.ErrUnknown}, {"c bound y 0 2", api.OK},
	} {
		for _, before := range [][]string{nil, {"c memoize", "e.0 unroll x"}} {
			s := parsed(t, append(slices.Clone(before), x.line)...)
			at, err := sched.CheckFor(p, s)
			want := len(before)
			if x.err == api.OK {
				want = 0
			}
			if at != want || err != x.err {
				t.Error(i, x.line, at, err)
			}
			in, e1 := sched.Inlines(p, s)
			normal, e2 := sched.Normal(p, s)
			if e1 != x.err || e2 != x.err || x.err != api.OK && (in != nil || normal != nil) {
				t.Error("the others", i, e1, e2)
			}
		}
	}
	wrong := p
	wrong.Name = "9"
	s := parsed(t, "f memoize")
	s[0].Op = 16
	if at, err := sched.CheckFor(wrong, s); at != 0 || err != api.ErrName {
		t.Error("a wrong pipeline", at, err)
	}
	s = append(parsed(t, "f memoize"), s...)
	if at, err := sched.CheckFor(p, s); at != 1 || err != api.ErrUnknown {
		t.Error("the form comes first", at, err)
	}
	if at, err := sched.CheckFor(p, make(api.Schedule, 65)); at != 0 || err != api.ErrMany {
		t.Error("too many", at, err)
	}
}
