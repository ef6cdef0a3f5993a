package run_test

import (
	"fmt"
	"slices"
	"strings"
	"testing"

	"halation/api"
	"halation/image"
	"halation/loop"
	"halation/run"
)

// Promises P19.1 and P19.2.

const head = "buffer a u8 0:6\nbuffer out u8 0:4\n"

const example = head + "for x ; 0 ; 4 {\n  store out ; x ; a{x} + a{x + 1}\n}\n"

// row is what the example is given.
func row() api.Given {
	im, _ := image.Make(api.U8, api.Box{{Extent: 6}}, []uint64{1, 2, 3, 4, 5, 250})
	return api.Given{Images: []api.Image{im}}
}

// ran returns the result of a program that is given the row of the example, as far as it has an input.
func ran(t *testing.T, s string, orders []int, limit int) run.Result {
	t.Helper()
	p, g := parsed(t, s), row()
	g.Images = g.Images[:len(p.Buffers)-1]
	r, err := run.Run(p, g, orders, limit)
	if err != api.OK {
		t.Fatal(s, err)
	}
	return r
}

func count(l []bool) int {
	n := 0
	for _, is := range l {
		if is {
			n++
		}
	}
	return n
}

// TestExamples has the examples of the chapter.
func TestExamples(t *testing.T) {
	r := ran(t, example, nil, 100)
	if r.Outcome != run.Done || !slices.Equal(r.Output, []uint64{3, 5, 7, 9}) || count(r.Set) != 4 || r.Steps != 21 || r.Loads != 8 || r.Stores != 4 {
		t.Error(r)
	}
	r = ran(t, example, nil, 20)
	if r.Outcome != run.Steps || r.At != 0 || count(r.Set) != 3 || r.Steps != 20 || r.Stores != 3 || !slices.Equal(r.Output, []uint64{3, 5, 7, 0}) {
		t.Error(r)
	}
	r = ran(t, strings.Replace(example, "0 ; 4", "0 ; 6", 1), nil, 100)
	if r.Outcome != run.Bounds || r.At != 0 || r.Loads != 10 || r.Stores != 4 {
		t.Error(r)
	}
	fill := "buffer a i32 0:5\nblock {\n  for y ; 0 ; 5 {\n    store a ; y ; y + 1\n  }\n  LOOP x ; 0 ; 4 {\n    store a ; x + 1 ; a{x}\n  }\n}\n"
	for word, want := range map[string][]uint64{"vector": {1, 1, 2, 3, 4}, "for": {1, 1, 1, 1, 1}} {
		if r := ran(t, strings.Replace(fill, "LOOP", word, 1), nil, 100); r.Outcome != run.Done || !slices.Equal(r.Output, want) {
			t.Error(word, r)
		}
	}
}

// TestOrder has orders of loops by numbers.
func TestOrder(t *testing.T) {
	for i, x := range []struct {
		k, times int
		l        []int
		err      api.Errno
	}{
		{1, 4, []int{1, 0, 3, 2}, api.OK}, {2, 4, []int{2, 3, 0, 1}, api.OK}, {0, 3, []int{0, 1, 2}, api.OK}, {5, 3, []int{2, 1, 0}, api.OK}, {3, 1, []int{0}, api.OK}, {1000, 0, nil, api.OK},
		{-1, 3, nil, api.ErrRange}, {1001, 3, nil, api.ErrRange}, {0, -1, nil, api.ErrRange}, {0, 1001, nil, api.ErrRange}, {-1 << 63, 1<<63 - 1, nil, api.ErrRange},
	} {
		if l, err := run.Order(x.k, x.times); !slices.Equal(l, x.l) || err != x.err {
			t.Error(i, l, err)
		}
	}
	for k := range 30 {
		for times := range 12 {
			if l, err := run.Order(k, times); !slices.Equal(l, ordered(k, times)) || err != api.OK {
				t.Error(k, times, l, err)
			}
		}
	}
	if l, err := run.Order(1000, 1000); len(l) != 1000 || l[1] != 1 || err != api.OK {
		t.Error("the greatest ones", len(l), err)
	}
}

// TestEnds has programs with all ways of ending, and where.
func TestEnds(t *testing.T) {
	const none = "0000"
	for i, x := range []struct {
		s       string
		outcome int
		at      int
		steps   int
		out     string
	}{
		{"block {\n}\n", run.Done, 0, 1, none},
		{"copy a to device\n", run.Done, 0, 1, none},
		{"mark m {\n  mark n {\n    block {\n    }\n  }\n}\n", run.Done, 0, 3, none},
		{"store out ; 3 ; 9u8\n", run.Done, 0, 2, "0009"},
		{"store out ; 4 ; a{0}\n", run.Bounds, 0, 2, none},
		{"store out ; -1 ; 1u8\n", run.Bounds, 0, 1, none},
		{"store out ; 0 ; a{6}\n", run.Bounds, 0, 1, none},
		{"store out ; 0 ; a{-1} + a{0}\n", run.Bounds, 0, 1, none},
		{"store out ; 0 ; a{0} + a{-1}\n", run.Bounds, 0, 2, none},
		{"store out ; 1 ; out{1}\n", run.Unset, 0, 1, none},
		{"store a ; 1 ; a{5}\n", run.Done, 0, 3, none},
		{"block {\n  store a ; 1 ; 7u8\n  store out ; 1 ; a{1}\n}\n", run.Done, 0, 6, "0700"},
		{"alloc b u8 2 {\n  store out ; 1 ; b{2}\n}\n", run.Bounds, 0, 2, none},
		{"alloc b u8 2 {\n  store out ; 1 ; b{1}\n}\n", run.Unset, 0, 2, none},
		{"for x ; 0 ; 2 {\n  alloc b u8 1 {\n    block {\n      if x == 0 {\n        store b ; 0 ; 1u8\n      }\n      store out ; x ; b{0}\n    }\n  }\n}\n", run.Unset, 2, 15, "1000"}, // a new one each time
		{"block {\n  store out ; 2 ; 9u8\n  assert no 2 < 1\n  store out ; 3 ; 9u8\n}\n", run.Failed, 1, 4, "0090"},
		{"assert yes 1 < 2\n", run.Done, 0, 1, none},
		{"assert no a{0} < a{9}\n", run.Bounds, 0, 2, none},
		{"for x ; 3 ; 0 {\n  store out ; x ; 1u8\n}\n", run.Done, 0, 1, none},
		{"for x ; 3 ; -2147483648 {\n  store out ; x ; 1u8\n}\n", run.Done, 0, 1, none},
		{"for x ; 1048576 ; 1 {\n  block {\n  }\n}\n", run.Done, 0, 3, none},
		{"for x ; 1048576 ; 2 {\n  block {\n  }\n}\n", run.Range, 1, 1, none},
		{"for x ; -1048576 ; 1 {\n  block {\n  }\n}\n", run.Done, 0, 3, none},
		{"for x ; -1048577 ; 2 {\n  block {\n  }\n}\n", run.Range, 1, 1, none},
		{"for x ; -1048577 ; 0 {\n  block {\n  }\n}\n", run.Done, 0, 1, none},
		{"for x ; 0 ; 2147483647 {\n  block {\n  }\n}\n", run.Range, 1, 1, none},
		{"for x ; 2147483647 ; 2147483647 {\n  block {\n  }\n}\n", run.Range, 1, 1, none},
		{"vector x ; 1048576 ; 2 {\n  block {\n  }\n}\n", run.Range, 1, 1, none},
		{"tasks x ; 1048576 ; 2 {\n  block {\n  }\n}\n", run.Range, 1, 1, none},
		{"for x ; i32(a{0}) ; i32(a{1}) {\n  store out ; x ; 5u8\n}\n", run.Done, 0, 1 + 2 + 2*3, "0550"},
		{"for x ; i32(out{0}) ; i32(a{9}) {\n  block {\n  }\n}\n", run.Unset, 1, 1, none},
		{"if a{0} < a{1} {\n  store out ; 0 ; 1u8\n} else {\n  store out ; 0 ; 2u8\n}\n", run.Done, 0, 5, "1000"},
		{"if a{1} < a{0} {\n  store out ; 0 ; 1u8\n} else {\n  store out ; 0 ; 2u8\n}\n", run.Done, 0, 5, "2000"},
		{"if a{1} < a{0} {\n  store out ; 0 ; 1u8\n}\n", run.Done, 0, 3, none},
		{"let t ; i32(a{1}) {\n  store out ; t ; u8(t + 1)\n}\n", run.Done, 0, 4, "0030"},
		{"store out ; 5 ; a{9} ; 2 < 1\n", run.Done, 0, 1, none},
		{"store out ; 5 ; a{9} ; a{0} == 2u8\n", run.Done, 0, 2, none},
		{"store out ; 2 ; 4u8 ; a{0} == 1u8\n", run.Done, 0, 3, "0040"},
		{"store out ; ramp(0, 3, 2) ; broadcast(a{4}, 2)\n", run.Done, 0, 4, "5005"}, // one load, for both lanes
		{"store out ; ramp(0, 3, 3) ; broadcast(5u8, 3)\n", run.Bounds, 0, 3, "5005"},
		{"store out ; ramp(0, 3, 3) ; broadcast(5u8, 3) ; ramp(0, 1, 3) < broadcast(2, 3)\n", run.Done, 0, 3, "5005"},
		{"store out ; broadcast(i32(a{9}), 2) ; broadcast(5u8, 2) ; ramp(0, 1, 2) < broadcast(0, 2)\n", run.Done, 0, 1, none}, // no lane counts
		{"store out ; ramp(0, 1, 2) ; a{ramp(3, 9, 2)} ; ramp(0, 1, 2) < broadcast(1, 2)\n", run.Done, 0, 3, "4000"},
		{"store out ; ramp(0, 1, 2) ; a{ramp(3, 9, 2)}\n", run.Bounds, 0, 2, none},
		{"store out ; ramp(0, 1, 2) ; out{ramp(9, -9, 2)}\n", run.Bounds, 0, 1, none}, // the first lane with a fault
		{"store out ; ramp(0, 1, 2) ; out{ramp(0, 9, 2)}\n", run.Unset, 0, 1, none},
		{"store out ; broadcast(1, 3) ; u8(ramp(4, 1, 3))\n", run.Done, 0, 4, "0600"}, // the last lane stays
		{"store out ; 0 ; reduce_add(a{ramp(0, 1, 3)})\n", run.Done, 0, 5, "6000"},
	} {
		r := ran(t, head+x.s, nil, 100000)
		text := ""
		for _, bits := range r.Output {
			text += string(rune('0' + bits))
		}
		if r.Outcome != x.outcome || r.At != x.at || r.Steps != x.steps || text != x.out {
			t.Errorf("%d: %s: %+v %s", i, x.s, r, text)
		}
	}
}

// TestVectors has what Vector loops do for all of their values together.
func TestVectors(t *testing.T) {
	for i, x := range []struct {
		s       string
		outcome int
		at      int
		steps   int
		out     []uint64
	}{
		// 1 for the loop, 4 values, then the kid is begun 4 times
		{"vector x ; 0 ; 4 {\n  block {\n  }\n}\n", run.Done, 0, 9, []uint64{0, 0, 0, 0}},
		{"vector x ; 0 ; 4 {\n  store out ; x ; u8(x)\n}\n", run.Done, 0, 13, []uint64{0, 1, 2, 3}},
		{"vector x ; 0 ; 4 {\n  store out ; 3 - x ; u8(x) ; x != 1\n}\n", run.Done, 0, 12, []uint64{3, 2, 0, 0}},
		{"vector x ; 0 ; 4 {\n  store out ; 2 ; u8(x)\n}\n", run.Done, 0, 13, []uint64{0, 0, 3, 0}}, // the last value stays
		{"vector x ; 0 ; 2 {\n  store out ; ramp(x, 1, 2) ; broadcast(u8(x + 1), 2)\n}\n", run.Done, 0, 9, []uint64{1, 2, 2, 0}},
		{"vector x ; 0 ; 2 {\n  store out ; ramp(0, x, 2) ; u8(ramp(x, 1, 2)) ; ramp(0, 1, 2) == broadcast(x, 2)\n}\n", run.Done, 0, 7, []uint64{0, 2, 0, 0}},
		{"vector x ; 0 ; 4 {\n  if 1 < x {\n    store out ; x ; u8(x)\n  } else {\n    store out ; 1 - x ; u8(x + 10)\n  }\n}\n", run.Done, 0, 1 + 4 + 4 + 8, []uint64{11, 10, 2, 3}},
		{"vector x ; 0 ; 4 {\n  if x < 9 {\n    store out ; x ; u8(x)\n  } else {\n    store out ; 9 ; a{9}\n  }\n}\n", run.Done, 0, 1 + 4 + 4 + 8, []uint64{0, 1, 2, 3}},
		{"vector x ; 0 ; 2 {\n  let t ; i32(a{x}) {\n    store out ; x ; u8(t * t)\n  }\n}\n", run.Done, 0, 1 + 2 + 4 + 4, []uint64{1, 4, 0, 0}},
		{"vector x ; 0 ; 2 {\n  for y ; 0 ; 2 {\n    store out ; x * 2 + y ; u8(y + 1)\n  }\n}\n", run.Done, 0, 1 + 2 + 2 + 2 + 8, []uint64{1, 2, 1, 2}},
		{"vector x ; 0 ; 2 {\n  for y ; x ; 2 {\n    block {\n    }\n  }\n}\n", run.Uneven, 1, 5, []uint64{0, 0, 0, 0}},
		{"vector x ; 0 ; 2 {\n  for y ; 0 ; x {\n    block {\n    }\n  }\n}\n", run.Uneven, 1, 5, []uint64{0, 0, 0, 0}},
		{"vector x ; 0 ; 2 {\n  for y ; x ; -1 {\n    block {\n    }\n  }\n}\n", run.Uneven, 1, 5, []uint64{0, 0, 0, 0}},
		{"vector x ; 0 ; 2 {\n  for y ; x - x ; 0 {\n    block {\n    }\n  }\n}\n", run.Done, 0, 5, []uint64{0, 0, 0, 0}},
		{"vector x ; 0 ; 2 {\n  if x < 0 {\n    for y ; x ; 2 {\n      block {\n      }\n    }\n  }\n}\n", run.Done, 0, 5, []uint64{0, 0, 0, 0}}, // without lanes
		{"vector x ; 0 ; 2 {\n  for y ; 1048576 ; 2 {\n    block {\n    }\n  }\n}\n", run.Range, 1, 5, []uint64{0, 0, 0, 0}},
		{"vector x ; 0 ; 2 {\n  assert few a{x} < 2u8\n}\n", run.Failed, 0, 1 + 2 + 2 + 2, []uint64{0, 0, 0, 0}},
		{"vector x ; 0 ; 2 {\n  assert none a{x} < a{x * 9 - 9}\n}\n", run.Bounds, 0, 1 + 2 + 2 + 1, []uint64{0, 0, 0, 0}},
		{"vector x ; 0 ; 2 {\n  assert none a{x} < a{x * 9}\n}\n", run.Failed, 0, 1 + 2 + 2 + 2, []uint64{0, 0, 0, 0}}, // before the second lane is computed
		{"vector x ; 0 ; 2 {\n  mark m {\n    copy a to host\n  }\n}\n", run.Done, 0, 7, []uint64{0, 0, 0, 0}},
		// the indices of all lanes come first, so that the second lane's index ends it ahead of the first one's value
		{"vector x ; 0 ; 2 {\n  store out ; i32(a{x * 9}) ; out{3}\n}\n", run.Bounds, 0, 1 + 2 + 2 + 1, []uint64{0, 0, 0, 0}},
		// where is computed for all lanes ahead of the indices
		{"vector x ; 0 ; 2 {\n  store out ; i32(out{0}) ; 1u8 ; a{x * 9} == 1u8\n}\n", run.Bounds, 0, 1 + 2 + 2 + 1, []uint64{0, 0, 0, 0}},
		// all lanes are computed before the first one is stored
		{"vector x ; 0 ; 2 {\n  store out ; x ; a{x * 9}\n}\n", run.Bounds, 0, 1 + 2 + 2 + 1, []uint64{0, 0, 0, 0}},
	} {
		r := ran(t, head+x.s, nil, 100000)
		if r.Outcome != x.outcome || r.At != x.at || r.Steps != x.steps || !slices.Equal(r.Output, x.out) {
			t.Errorf("%d: %s: %+v", i, x.s, r)
		}
	}
	// begin is computed for all lanes ahead of times
	l := traced(t, head+"vector x ; 0 ; 2 {\n  for y ; i32(a{x * 0}) ; i32(a{1}) {\n    block {\n    }\n  }\n}\n", nil)
	if got := indices(l); !slices.Equal(got, []int{0, 0, 1, 1}) {
		t.Error("begin and times", got)
	}
}

// traced returns the accesses of a program that is given the row of the example.
func traced(t *testing.T, s string, orders []int) []run.Access {
	t.Helper()
	l, err := run.Trace(parsed(t, s), row(), orders, 100000)
	if err != api.OK {
		t.Fatal(s, err)
	}
	return l
}

func indices(l []run.Access) []int {
	var out []int
	for _, a := range l {
		out = append(out, a.Index)
	}
	return out
}

// TestMasks has what lanes that do not count are in what the others are made of.
func TestMasks(t *testing.T) {
	for i, x := range []struct {
		s   string
		out []uint64
	}{
		// lanes that do not count are 0 in what is picked, and in what is combined
		{"store out ; ramp(0, 1, 2) ; u8(shuffle(ramp(5, 1, 2), 1, 0)) ; ramp(0, 1, 2) == broadcast(0, 2)\n", []uint64{0, 0, 0, 0}},
		{"store out ; ramp(0, 1, 2) ; u8(broadcast(reduce_add(ramp(5, 1, 2)), 2)) ; ramp(0, 1, 2) == broadcast(0, 2)\n", []uint64{5, 0, 0, 0}},
		// but those of nodes with another number of lanes count
		{"store out ; ramp(0, 1, 2) ; u8(broadcast(reduce_add(ramp(5, 1, 3)), 2)) ; ramp(0, 1, 2) == broadcast(0, 2)\n", []uint64{18, 0, 0, 0}},
		{"store out ; ramp(0, 1, 2) ; u8(shuffle(ramp(5, 1, 3), 2, 1)) ; ramp(0, 1, 2) == broadcast(1, 2)\n", []uint64{0, 6, 0, 0}},
	} {
		if r := ran(t, head+x.s, nil, 100); r.Outcome != run.Done || !slices.Equal(r.Output, x.out) {
			t.Errorf("%d: %+v", i, r)
		}
	}
	// a load of a node with another number of lanes is done for all of them
	if l := traced(t, head+"store out ; ramp(0, 1, 2) ; shuffle(a{ramp(0, 1, 3)}, 0, 1) ; ramp(0, 1, 2) == broadcast(0, 2)\n", nil); len(l) != 4 {
		t.Error("loads", l)
	}
}

// TestOrders has loops whose order is told, the n-th one by the n-th number.
func TestOrders(t *testing.T) {
	s := head + "block {\n  KIND1 x ; 0 ; 3 {\n    KIND2 y ; 0 ; 2 {\n      store out ; x ; u8(y)\n    }\n  }\n  for z ; 0 ; 2 {\n    store out ; z ; 0u8\n  }\n}\n"
	s = strings.NewReplacer("KIND1", "grid", "KIND2", "lane").Replace(s)
	for i, x := range []struct {
		orders []int
		want   string
	}{
		{nil, "00 01 10 11 20 21 "},
		{[]int{1}, "10 11 00 01 20 21 "},
		{[]int{0, 1, 0, 3}, "01 00 10 11 21 20 "},
		{[]int{2, 0, 1}, "20 21 01 00 10 11 "},
		{[]int{1000, 999, 999, 999, 5}, "11 10 21 20 01 00 "},
	} {
		got := ""
		l := traced(t, s, x.orders)
		for _, a := range l[:6] {
			got += fmt.Sprintf("%d%d ", a.Index, a.Bits)
		}
		if got != x.want || l[6].Index != 0 || l[7].Index != 1 {
			t.Error(i, got)
		}
	}
	// a loop without values is begun, too
	none := head + "block {\n  tasks x ; 0 ; 0 {\n    block {\n    }\n  }\n  tasks y ; 0 ; 3 {\n    store out ; y ; 1u8\n  }\n}\n"
	if got := indices(traced(t, none, []int{1, 2})); !slices.Equal(got, []int{2, 0, 1}) {
		t.Error("behind a loop without values", got)
	}
}

// TestGiven has the errors of what a program is given.
func TestGiven(t *testing.T) {
	p := parsed(t, "buffer a u8 0:2\nbuffer b i16 1:1, 0:2\nbuffer out u8 0:4\nparam k i32 -5 9\nparam c bool 1 1\nparam f f32 0 1\nparam u u64 0 9223372036854775807\nblock {\n}\n")
	im := func(kind int, b api.Box, data ...uint64) api.Image {
		strides, stride := []int{}, 1
		for _, r := range b {
			strides = append(strides, stride)
			stride *= r.Extent
		}
		return api.Image{Kind: kind, Box: b, Strides: strides, Data: data}
	}
	value := func(kind int, bits uint64) api.Value { return api.Value{Kind: kind, Bits: bits} }
	a, b := im(api.U8, api.Box{{Extent: 2}}, 1, 2), im(api.I16, api.Box{{Min: 1, Extent: 1}, {Extent: 2}}, 1, 2)
	params := []api.Value{value(api.I32, 9), value(api.Bool, 1), value(api.F32, 0x3f800000), value(api.U64, 1<<63-1)}
	with := func(i int, v api.Value) []api.Value {
		out := slices.Clone(params)
		out[i] = v
		return out
	}
	strided := b
	strided.Strides, strided.Data = []int{7, 3}, []uint64{1, 0, 0, 2}
	bad := a
	bad.Data = []uint64{256, 1}
	for i, x := range []struct {
		g   api.Given
		err api.Errno
	}{
		{api.Given{Images: []api.Image{a, b}, Params: params}, api.OK},
		{api.Given{Images: []api.Image{a, strided}, Params: params}, api.OK},
		{api.Given{Images: []api.Image{a}, Params: params}, api.ErrShape},
		{api.Given{Images: []api.Image{a, b, a}, Params: params}, api.ErrShape},
		{api.Given{Images: []api.Image{bad, {}}, Params: nil}, api.ErrForm},
		{api.Given{Images: []api.Image{{Kind: 99}, {}}}, api.ErrKind},
		{api.Given{Images: []api.Image{im(api.I8, api.Box{{Extent: 3}}, 1, 2, 3), b}}, api.ErrType},
		{api.Given{Images: []api.Image{im(api.U8, api.Box{{Extent: 3}}, 1, 2, 3), {}}}, api.ErrBounds},
		{api.Given{Images: []api.Image{im(api.U8, api.Box{{Min: 1, Extent: 2}}, 1, 2), b}}, api.ErrBounds},
		{api.Given{Images: []api.Image{a, im(api.I16, api.Box{{Min: 1, Extent: 1}}, 1)}}, api.ErrBounds},
		{api.Given{Images: []api.Image{a, b}, Params: params[:3]}, api.ErrShape},
		{api.Given{Images: []api.Image{a, b}, Params: append(slices.Clone(params), params[0])}, api.ErrShape},
		{api.Given{Images: []api.Image{a, b}, Params: with(0, value(api.I32, 1<<32))}, api.ErrForm},
		{api.Given{Images: []api.Image{a, b}, Params: with(0, value(99, 0))}, api.ErrKind},
		{api.Given{Images: []api.Image{a, b}, Params: with(0, value(api.U32, 0))}, api.ErrType},
		{api.Given{Images: []api.Image{a, b}, Params: with(0, value(api.I32, 10))}, api.ErrRange},
		{api.Given{Images: []api.Image{a, b}, Params: with(0, value(api.I32, 1<<32-5))}, api.OK},
		{api.Given{Images: []api.Image{a, b}, Params: with(0, value(api.I32, 1<<32-6))}, api.ErrRange},
		{api.Given{Images: []api.Image{a, b}, Params: with(1, value(api.Bool, 0))}, api.ErrRange},
		{api.Given{Images: []api.Image{a, b}, Params: with(2, value(api.F32, 0x3f800001))}, api.ErrRange},
		{api.Given{Images: []api.Image{a, b}, Params: with(2, value(api.F32, 0x3f000000))}, api.OK},
		{api.Given{Images: []api.Image{a, b}, Params: with(2, value(api.F32, 0xbf000000))}, api.ErrRange},
		{api.Given{Images: []api.Image{a, b}, Params: with(3, value(api.U64, 1<<63))}, api.ErrRange},
	} {
		if err := run.CheckGiven(p, x.g); err != x.err {
			t.Error(i, err, "not", x.err)
		}
		if r, err := run.Run(p, x.g, nil, 9); err != x.err || err != api.OK && len(r.Set)+len(r.Output) > 0 {
			t.Error(i, "Run", err)
		}
	}
	wrong := parsed(t, head+"block {\n}\n")
	wrong.Stmts = nil
	if err := run.CheckGiven(wrong, api.Given{}); err != api.ErrEmpty {
		t.Error("no statements", err)
	}
	if err := run.CheckGiven(api.Program{Stmts: []api.Stmt{{Op: api.SBlock}}}, api.Given{Images: []api.Image{{}}}); err != api.ErrEmpty {
		t.Error("no buffers", err)
	}
	// elements of an image that is not dense
	r, err := run.Run(parsed(t, "buffer b i16 1:1, 0:2\nbuffer out i16 0:2\nfor x ; 0 ; 2 {\n  store out ; x ; b{x}\n}\n"), api.Given{Images: []api.Image{strided}}, nil, 99)
	if !slices.Equal(r.Output, []uint64{1, 2}) || err != api.OK {
		t.Error("an image that is not dense", r, err)
	}
}

// TestArguments has the errors of orders and limits, behind those of what is given.
func TestArguments(t *testing.T) {
	p := parsed(t, example)
	for i, x := range []struct {
		g      api.Given
		orders []int
		limit  int
		err    api.Errno
	}{
		{api.Given{}, []int{-1}, -1, api.ErrShape}, {row(), make([]int, 257), -1, api.ErrMany}, {row(), append([]int{-1}, make([]int, 256)...), 0, api.ErrMany},
		{row(), []int{0, 1001}, 0, api.ErrRange}, {row(), []int{-1}, 0, api.ErrRange}, {row(), nil, -1, api.ErrRange}, {row(), nil, 1000001, api.ErrRange},
		{row(), make([]int, 256), 1000000, api.OK}, {row(), []int{1000}, 21, api.OK},
	} {
		r, err1 := run.Run(p, x.g, x.orders, x.limit)
		l, err2 := run.Trace(p, x.g, x.orders, x.limit)
		im, err3 := run.Image(p, x.g, x.orders, x.limit)
		visits, err4 := run.Visits(p, x.g, x.orders, x.limit)
		for _, err := range []api.Errno{err1, err2, err3, err4} {
			if err != x.err {
				t.Error(i, err, "not", x.err)
			}
		}
		if x.err != api.OK && len(r.Output)+len(l)+len(im.Data)+len(visits) > 0 {
			t.Error(i, "beside an error", r, l, im, visits)
		}
	}
}

// TestTraces has what a trace, an image and visits are of the example.
func TestTraces(t *testing.T) {
	p := parsed(t, example)
	l, err1 := run.Trace(p, row(), nil, 12)
	want := []run.Access{{Buffer: "a", Bits: 1}, {Buffer: "a", Index: 1, Bits: 2}, {Store: true, Buffer: "out", Bits: 3}, {Buffer: "a", Index: 1, Bits: 2}, {Buffer: "a", Index: 2, Bits: 3}, {Store: true, Buffer: "out", Index: 1, Bits: 5}}
	visits, err2 := run.Visits(p, row(), nil, 12)
	im, err3 := run.Image(p, row(), nil, 21)
	if !slices.Equal(l, want[:len(l)]) || len(l) != 6 || !slices.Equal(visits, []int{2, 1}) || !slices.Equal(im.Data, []uint64{3, 5, 7, 9}) || !slices.Equal(im.Strides, []int{1}) || err1+err2+err3 != api.OK {
		t.Error(l, visits, im)
	}
	// in a Vector loop lanes are begun one after the other
	v := parsed(t, head+"vector x ; 0 ; 4 {\n  store out ; x ; 1u8\n}\n")
	for limit, want := range map[int][]int{0: {0, 0}, 1: {0, 1}, 5: {0, 1}, 7: {2, 1}, 9: {4, 1}, 13: {4, 1}} {
		if visits, err := run.Visits(v, row(), nil, limit); !slices.Equal(visits, want) || err != api.OK {
			t.Error("visits", limit, visits, err)
		}
	}
	// 20000 accesses are not too many
	long := func(n int) (int, api.Errno) {
		l, err := run.Trace(parsed(t, fmt.Sprint(head, "for x ; 0 ; ", n, " {\n  store out ; 0 ; a{0}\n}\n")), row(), nil, run.MaxSteps)
		return len(l), err
	}
	if n, err := long(10000); n != 20000 || err != api.OK {
		t.Error("20000 accesses", n, err)
	}
	if n, err := long(10001); n != 0 || err != api.ErrLimit {
		t.Error("20002 accesses", n, err)
	}
	for i, x := range []struct {
		s   string
		err api.Errno
	}{
		{"store out ; 4 ; 1u8\n", api.ErrBounds}, {"store out ; 1 ; out{0}\n", api.ErrState}, {"assert no 2 < 1\n", api.ErrConflict}, {"for x ; 1048576 ; 2 {\n  block {\n  }\n}\n", api.ErrRange},
		{"vector x ; 0 ; 2 {\n  for y ; 0 ; x {\n    block {\n    }\n  }\n}\n", api.ErrVector}, {"store out ; 0 ; 1u8\n", api.ErrState}, {"for x ; 0 ; 99 {\n  block {\n  }\n}\n", api.ErrLimit},
	} {
		if im, err := run.Image(parsed(t, head+x.s), row(), nil, 100); err != x.err || len(im.Box) > 0 {
			t.Error(i, err)
		}
	}
	// an output without points has no element that is missing
	empty, err := run.Image(parsed(t, "buffer out u8 3:0\nblock {\n}\n"), api.Given{}, nil, 1)
	if err != api.OK || len(empty.Data) != 0 || !slices.Equal(empty.Box, api.Box{{Min: 3}}) {
		t.Error("an empty output", empty, err)
	}
}

// TestValues has all sorts of nodes with parameters of all kinds.
func TestValues(t *testing.T) {
	p := parsed(t, "buffer out i32 0:8\nparam k i32 -5 9\nparam c bool 0 1\nparam f f32 0 2\nblock {\n  store out ; 0 ; @k + i32(@c)\n  store out ; 1 ; i32(!@c)\n  store out ; 2 ; i32(@f * 3p0f32)\n  store out ; 3 ; select(@c, 7, 8)\n  store out ; 4 ; i32(sat_u8(@k * 100))\n  store out ; 5 ; reduce_max(ramp(@k, -2, 4) * broadcast(-1, 4))\n  store out ; 6 ; reduce_add(shuffle(ramp(@k, 2147483647, 3), 2, 2, 0))\n  store out ; 7 ; !@k\n}\n")
	g := api.Given{Params: []api.Value{{Kind: api.I32, Bits: 4}, {Kind: api.Bool, Bits: 1}, {Kind: api.F32, Bits: 0x3fc00000}}}
	r, err := run.Run(p, g, nil, 100)
	if want := []uint64{5, 0, 4, 7, 255, 2, 8, 1<<32 - 5}; !slices.Equal(r.Output, want) || r.Outcome != run.Done || err != api.OK {
		t.Error(r, err)
	}
}

// TestDeep has a program with as many statements in one another as there can be.
func TestDeep(t *testing.T) {
	p := api.Program{Buffers: []api.Buffer{{Name: "out", Kind: api.U8, Box: api.Box{{Extent: 1}}}}, Stmts: []api.Stmt{{Op: api.SBlock}}}
	for i := range 1999 {
		p.Stmts = append(p.Stmts, api.Stmt{Op: api.SMark, Name: "m", Kids: []int{i}})
	}
	if r, err := run.Run(p, api.Given{}, nil, 2000); r.Outcome != run.Done || r.Steps != 2000 || err != api.OK {
		t.Error(r, err)
	}
	if _, err := loop.Check(p); err != api.OK {
		t.Error(err)
	}
}
