package expr

import (
	"slices"

	"halation/api"
	"halation/num"
)

// form is what the nodes of an Op have. Its functions are asked in this order; those of the kids only when as many as
// there must be are in order.
type form struct {
	kids  [2]int // at least, and at most
	named bool
	bits  func(n api.Node) bool
	kinds func(n api.Node, kids []api.Node) bool
	lanes func(n api.Node, kids []api.Node) bool
}

// formOf returns the form of an Op.
func formOf(op int) form {
	return forms()[op]
}

// forms returns the forms of all Ops.
func forms() [api.Ops]form {
	table := [api.Ops]form{
		api.EConst:     {bits: valueBits, kinds: anyKind, lanes: evenLanes},
		api.EVar:       {named: true, bits: noBits, kinds: coordinateKind, lanes: evenLanes},
		api.EParam:     {named: true, bits: noBits, kinds: anyKind, lanes: evenLanes},
		api.ECall:      {kids: [2]int{1, api.MaxDims}, named: true, bits: noBits, kinds: indexKinds, lanes: evenLanes},
		api.EImage:     {kids: [2]int{1, api.MaxDims}, named: true, bits: noBits, kinds: indexKinds, lanes: evenLanes},
		api.ELoad:      {kids: [2]int{1, 1}, named: true, bits: noBits, kinds: indexKinds, lanes: evenLanes},
		api.EAdd:       {kids: [2]int{2, 2}, bits: noBits, kinds: operationKinds, lanes: evenLanes},
		api.ENot:       {kids: [2]int{1, 1}, bits: noBits, kinds: operationKinds, lanes: evenLanes},
		api.ECast:      {kids: [2]int{1, 1}, bits: noBits, kinds: castKinds, lanes: evenLanes},
		api.ESat:       {kids: [2]int{1, 1}, bits: noBits, kinds: saturatedKinds, lanes: evenLanes},
		api.ESelect:    {kids: [2]int{3, 3}, bits: noBits, kinds: selectKinds, lanes: evenLanes},
		api.ERamp:      {kids: [2]int{2, 2}, bits: noBits, kinds: rampKinds, lanes: spreadLanes},
		api.EBroadcast: {kids: [2]int{1, 1}, bits: noBits, kinds: sameKind, lanes: spreadLanes},
		api.EShuffle:   {kids: [2]int{1, 1}, bits: noBits, kinds: sameKind, lanes: pickedLanes},
		api.EReduce:    {kids: [2]int{1, 1}, bits: reducingOp, kinds: reducedKinds, lanes: reducedLanes},
	}
	for op := api.EAdd + 1; op <= api.ELe; op++ { // the operations with two kids have one form
		table[op] = table[api.EAdd]
	}
	return table
}

// isOp reports whether there is such an Op.
func isOp(op int) bool {
	return op >= 0 && op < api.Ops
}

// hasName reports whether nodes of an Op have a name; isCall whether they have indices, too.
func hasName(op int) bool {
	return isOp(op) && formOf(op).named
}

func isCall(op int) bool {
	return hasName(op) && formOf(op).kids != [2]int{}
}

// valueOf returns the value of a constant.
func valueOf(n api.Node) api.Value {
	return api.Value{Kind: n.Kind, Bits: n.Bits}
}

func valueBits(n api.Node) bool {
	return num.CheckValue(valueOf(n)) == api.OK
}

func noBits(n api.Node) bool {
	return n.Bits == 0
}

func reducingOp(n api.Node) bool {
	switch n.Bits {
	case api.EAdd, api.EMin, api.EMax, api.EAnd, api.EOr, api.EXor:
		return true
	}
	return false
}

func anyKind(api.Node, []api.Node) bool {
	return true
}

func isCoordinate(n api.Node) bool {
	return n.Kind == api.I32
}

func coordinateKind(n api.Node, _ []api.Node) bool {
	return isCoordinate(n)
}

func indexKinds(_ api.Node, kids []api.Node) bool {
	return !slices.ContainsFunc(kids, func(kid api.Node) bool { return !isCoordinate(kid) })
}

func operationKinds(n api.Node, kids []api.Node) bool {
	operand := kids[0].Kind
	kind, e := Result(n.Op, operand)
	return e == api.OK && kind == n.Kind && kids[len(kids)-1].Kind == operand
}

func castKinds(n api.Node, kids []api.Node) bool {
	return kids[0].Kind != api.C64 || n.Kind == api.C64
}

func saturatedKinds(n api.Node, kids []api.Node) bool {
	from := kids[0].Kind
	return num.IsInt(n.Kind) && (num.IsInt(from) || from == api.F32)
}

func selectKinds(n api.Node, kids []api.Node) bool {
	return kids[0].Kind == api.Bool && kids[1].Kind == kids[2].Kind && kids[1].Kind == n.Kind
}

func rampKinds(n api.Node, kids []api.Node) bool {
	return isCoordinate(n) && indexKinds(n, kids)
}

func sameKind(n api.Node, kids []api.Node) bool {
	return kids[0].Kind == n.Kind
}

func reducedKinds(n api.Node, kids []api.Node) bool {
	kind, e := Result(int(n.Bits), kids[0].Kind)
	return e == api.OK && kind == kids[0].Kind && kind == n.Kind
}

// evenLanes: as many as each kid has, or one without kids.
func evenLanes(n api.Node, kids []api.Node) bool {
	uneven := slices.ContainsFunc(kids, func(kid api.Node) bool { return kid.Lanes != n.Lanes })
	return !uneven && (len(kids) > 0 || n.Lanes == 1) && len(n.Picks) == 0
}

func spreadLanes(n api.Node, kids []api.Node) bool {
	several := slices.ContainsFunc(kids, func(kid api.Node) bool { return kid.Lanes != 1 })
	return !several && n.Lanes >= 2 && n.Lanes <= api.MaxLanes && len(n.Picks) == 0
}

func pickedLanes(n api.Node, kids []api.Node) bool {
	outside := slices.ContainsFunc(n.Picks, func(pick int) bool { return pick < 0 || pick >= kids[0].Lanes })
	return !outside && n.Lanes == len(n.Picks) && n.Lanes >= 1 && n.Lanes <= api.MaxLanes
}

func reducedLanes(n api.Node, kids []api.Node) bool {
	return n.Lanes == 1 && kids[0].Lanes >= 2 && len(n.Picks) == 0
}
