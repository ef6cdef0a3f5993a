package sample_test

import (
	"math/rand"
	"reflect"
	"testing"

	"halation/api"
	"halation/image"
	"halation/loop"
	"halation/pipe"
	"halation/run"
	"halation/sample"
	"halation/sched"
)

func TestMade(t *testing.T) {
	updates, wrong := 0, 0
	for seed := range int64(300) {
		m := sample.Maker{Picker: rand.New(rand.NewSource(seed))}
		again := sample.Maker{Picker: rand.New(rand.NewSource(seed))}
		p, q := m.Pipeline(), again.Pipeline()
		if seed%2 == 0 {
			p, q = m.Stencils(), again.Stencils()
		}
		if _, err := pipe.Check(p); err != api.OK || !reflect.DeepEqual(p, q) {
			t.Fatal(seed, p, err)
		}
		b := m.Box(p)
		if image.CheckBox(b) != api.OK || len(b) != len(p.Funcs[len(p.Funcs)-1].Args) {
			t.Fatal(seed, b)
		}
		keep := func(s api.Schedule) bool {
			_, err := sched.CheckFor(p, s)
			return err == api.OK
		}
		s := m.Schedule(p, keep)
		if !keep(s) {
			t.Fatal(seed, s)
		}
		for _, f := range p.Funcs {
			updates += len(f.Updates)
		}
		before := reflect.ValueOf([]any{p, s, b}).Interface()
		bad, r, c := m.Spoilt(p, s, b)
		_, err := sched.CheckFor(bad, r)
		if err != api.OK || image.CheckBox(c) != api.OK {
			wrong++
		}
		if _, err := sched.CheckFor(p, s); err != api.OK || image.CheckBox(b) != api.OK || !reflect.DeepEqual(before, []any{p, s, b}) {
			t.Fatal("Spoilt changes what it is given", seed)
		}
	}
	if updates < 100 || wrong < 100 || wrong == 300 {
		t.Error("rare", updates, wrong)
	}
}

func TestPrograms(t *testing.T) {
	outcomes, wrong := map[int]int{}, 0
	for seed := range int64(400) {
		m := sample.Maker{Picker: rand.New(rand.NewSource(seed))}
		again := sample.Maker{Picker: rand.New(rand.NewSource(seed))}
		p := m.Program()
		if _, err := loop.Check(p); err != api.OK || !reflect.DeepEqual(p, again.Program()) {
			t.Fatal(seed, p, err)
		}
		g := m.Given(p)
		r, err := run.Run(p, g, nil, 100000)
		if err != api.OK {
			t.Fatal(seed, err)
		}
		outcomes[r.Outcome]++
		before, _ := loop.Print(p)
		if _, err := loop.Check(m.SpoiltProgram(p)); err != api.OK {
			wrong++
		}
		if after, err := loop.Print(p); after != before || err != api.OK {
			t.Fatal("SpoiltProgram changes what it is given", seed)
		}
	}
	for outcome := run.Done; outcome <= run.Uneven; outcome++ {
		if outcomes[outcome] == 0 || outcomes[run.Done] < 200 || wrong < 200 || wrong == 400 {
			t.Error("rare", outcomes, wrong)
		}
	}
}
