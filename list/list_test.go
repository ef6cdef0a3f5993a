package list_test

import (
	"slices"
	"testing"

	"halation/api"
	"halation/list"
)

func TestErrors(t *testing.T) {
	for i, x := range []struct {
		errors []api.Errno
		want   api.Errno
	}{
		{nil, api.OK},
		{[]api.Errno{api.OK, api.OK}, api.OK},
		{[]api.Errno{api.OK, api.ErrName, api.ErrForm}, api.ErrName},
		{[]api.Errno{list.ErrorIf(false, api.ErrForm), list.ErrorIf(true, api.ErrKind)}, api.ErrKind},
	} {
		if e := list.FirstError(x.errors...); e != x.want {
			t.Errorf("FirstError %d: %v, want %v", i, e, x.want)
		}
	}
}

func TestMap(t *testing.T) {
	given := []int{3, 0, -2}
	got := list.Map(given, func(n int) string { return string(rune('m' + n)) })
	if !slices.Equal(got, []string{"p", "m", "k"}) || !slices.Equal(given, []int{3, 0, -2}) {
		t.Error("Map", got, given)
	}
	if got := list.Map(nil, func(n int) int { return n }); len(got) != 0 {
		t.Error("Map of nothing", got)
	}
}
