package bound

import (
	"slices"

	"halation/affine"
	"halation/api"
	"halation/expr"
	"halation/list"
	"halation/site"
	"halation/span"
)

const (
	// open is the greatest end that a range may have before it counts as open.
	open = 1 << 40
	// far is beyond all ends that count; what is beyond it counts as far.
	far = 1 << 60
)

// ends are the low and the high end of a range.
type ends [2]int

func endsOf(r api.Range) ends {
	return ends{r.Min, r.Min + r.Extent - 1}
}

// isWithin reports whether all of a range is in another one.
func (e ends) isWithin(outer ends) bool {
	return outer[0] <= e[0] && e[1] <= outer[1]
}

// hull returns the least range that has both.
func (e ends) hull(other ends) ends {
	return ends{min(e[0], other[0]), max(e[1], other[1])}
}

func (e ends) plus(other ends) ends {
	return ends{e[0] + other[0], e[1] + other[1]}
}

// cut returns a range as a span of which something can be known. (That of an empty box is taken for its first number.)
func (e ends) cut() span.Span {
	low := min(max(e[0], -open), open)
	return span.Span{Low: low, High: max(low, min(e[1], open))}
}

func (e ends) count() int {
	return max(0, e[1]-e[0]+1)
}

// kept is a term that stays in a range: a multiple of the variable of a loop of the site.
type kept struct {
	Loop
	index int
	coeff int
}

// ends are those of the term, whatever its variable is. (That of a loop that does not go at all is taken for 0.)
func (k kept) ends() ends {
	at := k.coeff * max(0, k.Extent-1)
	return ends{min(0, at), max(0, at)}
}

func variable(i int) api.Expr {
	e, _ := expr.Var(site.Variable(i))
	return e
}

func (k kept) term() affine.Term {
	return affine.Term{Coeff: k.coeff, Atom: variable(k.index)}
}

// stretch is a range: terms that are kept, plus what is from a low to a high end.
type stretch struct {
	kept []kept
	ends
}

// flat returns a range whose terms go through their spans.
func (r stretch) flat() stretch {
	out := stretch{ends: r.ends}
	for _, e := range list.Map(r.kept, kept.ends) {
		out.ends = out.plus(e)
	}
	return out
}

// with returns the hull of two ranges.
func (r stretch) with(other stretch) stretch {
	if !slices.Equal(r.kept, other.kept) {
		r, other = r.flat(), other.flat()
	}
	return stretch{r.kept, r.hull(other.ends)}
}

// amount is a number that may be beyond an int: a multiple of 2^32, and what is from 0 to 2^32 - 1.
type amount struct {
	upper int
	lower int
}

// plus adds what is at most a product of two numbers of I32.
func (a amount) plus(n int) amount {
	n += a.lower
	return amount{a.upper + n>>32, n & (1<<32 - 1)}
}

// number returns the number, or one that is as far as far.
func (a amount) number() int {
	return min(max(a.upper, -far>>32), far>>32)<<32 + a.lower
}

// knowledge is what is known of variables and parameters.
type knowledge []span.Known

// params returns what is known of the parameters of a pipeline. Of those whose kinds are not small nothing can be known.
func params(p api.Pipeline) knowledge {
	var out knowledge
	for _, param := range p.Params {
		if span.IsSmall(param.Kind) {
			out = append(out, span.Known{Op: api.EParam, Name: param.Name, Span: span.Span{Low: int(param.Low), High: int(param.High)}})
		}
	}
	return out
}

// add adds what is known of a variable.
func (l *knowledge) add(name string, e ends) {
	*l = append(*l, span.Known{Op: api.EVar, Name: name, Span: e.cut()})
}

// along returns what is known of the variables of a path, too.
func (l knowledge) along(path []Loop) knowledge {
	out := slices.Clone(l)
	for i, loop := range path {
		out.add(site.Variable(i), ends{0, loop.Extent - 1})
	}
	return out
}

// find returns the range of an expression for a site.
func (l knowledge) find(e api.Expr, loops []Loop) (stretch, api.Errno) {
	f, err := affine.Of(e)
	if err != api.OK {
		return stretch{}, err
	}
	var out stretch
	low := amount{}.plus(f.Const)
	high := low
	for _, t := range f.Terms {
		if i, ok := site.Loop(t.Atom, len(loops)); ok {
			out.kept = append(out.kept, kept{loops[i], i, t.Coeff})
			continue
		}
		fact, _ := span.Of(t.Atom, l) // always known: the kind I32 is small
		a, b := t.Coeff*fact.Span.Low, t.Coeff*fact.Span.High
		low, high = low.plus(min(a, b)), high.plus(max(a, b))
	}
	out.ends = ends{low.number(), high.number()}
	return out, api.OK
}
