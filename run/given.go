package run

import (
	"slices"

	"halation/api"
	"halation/image"
	"halation/list"
	"halation/loop"
	"halation/param"
)

// CheckGiven returns the first error of what a program is given, or OK.
func CheckGiven(p api.Program, g api.Given) api.Errno {
	_, err := loop.Check(p)
	err = list.FirstError(err,
		list.ErrorIf(len(p.Buffers) == 0, api.ErrEmpty),
		list.ErrorIf(len(g.Images) != len(p.Buffers)-1, api.ErrShape))
	if err != api.OK {
		return err
	}
	for i, im := range g.Images {
		if err := imageError(im, p.Buffers[i]); err != api.OK {
			return err
		}
	}
	if len(g.Params) != len(p.Params) {
		return api.ErrShape
	}
	for i, v := range g.Params {
		if err := param.ValueError(v, p.Params[i]); err != api.OK {
			return err
		}
	}
	return api.OK
}

// imageError returns the error of an image for a buffer.
func imageError(im api.Image, b api.Buffer) api.Errno {
	return list.FirstError(
		image.Check(im),
		list.ErrorIf(im.Kind != b.Kind, api.ErrType),
		list.ErrorIf(!slices.Equal(im.Box, b.Box), api.ErrBounds))
}

// ordersError returns the error of the numbers of orders, and of a limit.
func ordersError(orders []int, limit int) api.Errno {
	isNone := func(k int) bool { return k < 0 || k > maxOrder }
	return list.FirstError(
		list.ErrorIf(len(orders) > maxOrders, api.ErrMany),
		list.ErrorIf(slices.ContainsFunc(orders, isNone), api.ErrRange),
		list.ErrorIf(limit < 0 || limit > MaxSteps, api.ErrRange))
}
