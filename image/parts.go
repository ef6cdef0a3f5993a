package image

import (
	"slices"

	"halation/api"
	"halation/list"
)

// The boundaries.
const (
	Clamp    = iota
	Repeat   // 1
	Mirror   // 2
	Constant // 3
)

// taken returns the elements of an image for the points of a box, each of which stands in the image at another point.
func taken(im api.Image, b api.Box, from func(point) point) []uint64 {
	data := make([]uint64, 0, sizeOf(b))
	for p := range points(b) {
		data = append(data, bitsAt(im, from(p)))
	}
	return data
}

// part returns the dense image of such elements.
func part(im api.Image, b api.Box, from func(point) point) api.Image {
	return dense(im.Kind, b, taken(im, b, from))
}

func itself(p point) point {
	return p
}

// Dense returns a dense image with the same values.
func Dense(im api.Image) (api.Image, api.Errno) {
	if err := Check(im); err != api.OK {
		return api.Image{}, err
	}
	return part(im, im.Box, itself), api.OK
}

// Crop returns a part of an image.
func Crop(im api.Image, b api.Box) (api.Image, api.Errno) {
	err := list.FirstError(Check(im), CheckBox(b), list.ErrorIf(len(b) != len(im.Box), api.ErrDims))
	if err != api.OK {
		return api.Image{}, err
	}
	if sizeOf(b) > 0 && !slices.Equal(combined(im.Box, b, span.common), b) {
		return api.Image{}, api.ErrBounds
	}
	return part(im, b, itself), api.OK
}

func dimError(im api.Image, dim int) api.Errno {
	return list.ErrorIf(dim < 0 || dim >= len(im.Box), api.ErrRange)
}

// Slice returns an image with one dimension less.
func Slice(im api.Image, dim, at int) (api.Image, api.Errno) {
	err := list.FirstError(Check(im), list.ErrorIf(len(im.Box) == 1, api.ErrDims), dimError(im, dim))
	if err != api.OK {
		return api.Image{}, err
	}
	if !span(im.Box[dim]).has(at) {
		return api.Image{}, api.ErrBounds
	}
	rest := slices.Delete(slices.Clone(im.Box), dim, dim+1)
	return part(im, rest, func(p point) point {
		out := p
		copy(out[dim+1:], p[dim:])
		out[dim] = at
		return out
	}), api.OK
}

// Transpose returns an image with two dimensions exchanged.
func Transpose(im api.Image, a, b int) (api.Image, api.Errno) {
	if err := list.FirstError(Check(im), dimError(im, a), dimError(im, b)); err != api.OK {
		return api.Image{}, err
	}
	exchanged := slices.Clone(im.Box)
	exchanged[a], exchanged[b] = exchanged[b], exchanged[a]
	return part(im, exchanged, func(p point) point {
		p[a], p[b] = p[b], p[a]
		return p
	}), api.OK
}

// boundary is what a rule does with coordinates: it moves them into a range that has numbers, or there is another value
// at the points that would be moved.
type boundary struct {
	move   func(s span, c int) int
	stands bool
}

func boundaryOf(rule int) boundary {
	table := [...]boundary{
		Clamp:    {move: span.nearest},
		Repeat:   {move: span.repeated},
		Mirror:   {move: span.mirrored},
		Constant: {move: span.nearest, stands: true},
	}
	return table[rule]
}

func (s span) nearest(c int) int {
	return max(s.Min, min(c, s.end()-1))
}

func (s span) repeated(c int) int {
	return s.Min + modulo(c-s.Min, s.Extent)
}

func (s span) mirrored(c int) int {
	m := modulo(c-s.Min, 2*s.Extent)
	return s.Min + min(m, 2*s.Extent-1-m)
}

// modulo returns a number from 0 to m - 1.
func modulo(n, m int) int {
	return (n%m + m) % m
}

// edgeError returns the first error of what Edge is asked for.
func edgeError(im api.Image, rule int, p []int, outside api.Value) api.Errno {
	if err := Check(im); err != api.OK {
		return err
	}
	isFar := func(c int) bool { return c < -api.MaxCoord || c > api.MaxCoord }
	err := list.FirstError(
		list.ErrorIf(rule < Clamp || rule > Constant, api.ErrKind),
		list.ErrorIf(len(p) != len(im.Box), api.ErrDims),
		list.ErrorIf(slices.ContainsFunc(p, isFar), api.ErrRange))
	switch {
	case err != api.OK:
		return err
	case rule == Constant:
		return valueError(im, outside)
	}
	return list.ErrorIf(sizeOf(im.Box) == 0, api.ErrEmpty)
}

// Edge returns the value at any point by a rule.
func Edge(im api.Image, rule int, p []int, outside api.Value) (api.Value, api.Errno) {
	if err := edgeError(im, rule, p, outside); err != api.OK {
		return api.Value{}, err
	}
	if sizeOf(im.Box) == 0 {
		return outside, api.OK
	}
	b := boundaryOf(rule)
	at, _ := pointOf(p, len(im.Box))
	moved := at
	for i, r := range im.Box {
		moved[i] = b.move(span(r), at[i])
	}
	if b.stands && moved != at {
		return outside, api.OK
	}
	return api.Value{Kind: im.Kind, Bits: bitsAt(im, moved)}, api.OK
}
