// Package list has what all layers do with lists: transforming their elements, and finding the first error.
package list

import "halation/api"

// ErrorIf returns an error if something is wrong, otherwise OK.
func ErrorIf(wrong bool, e api.Errno) api.Errno {
	if wrong {
		return e
	}
	return api.OK
}

// FirstError returns the first error that is not OK, or OK.
func FirstError(errors ...api.Errno) api.Errno {
	for _, e := range errors {
		if e != api.OK {
			return e
		}
	}
	return api.OK
}

// Map returns a new list with what f makes of each element.
func Map[From, To any](l []From, f func(From) To) []To {
	out := make([]To, len(l))
	for i, x := range l {
		out[i] = f(x)
	}
	return out
}
