package lift

import (
	"slices"

	"counterproof/api"
)

// do puts statements together.
func do(list ...api.Stmt) []api.Stmt { return slices.Clone(list) }

func set(name string, e api.Expr) api.Stmt {
	return api.Stmt{Kind: api.StmtSet, Name: name, Args: []api.Expr{e}}
}

func store(at, e api.Expr) api.Stmt {
	return api.Stmt{Kind: api.StmtStore, Name: memory, Args: []api.Expr{at, e}}
}

func leave(e api.Expr) api.Stmt { return api.Stmt{Kind: api.StmtReturn, Args: []api.Expr{e}} }

func trap(e api.Expr) api.Stmt { return api.Stmt{Kind: api.StmtTrap, Args: []api.Expr{e}} }

func tell(e api.Expr) api.Stmt { return api.Stmt{Kind: api.StmtPrint, Args: []api.Expr{e}} }

// onward goes on with the next block.
func onward(e api.Expr) []api.Stmt {
	return do(set(next, e), api.Stmt{Kind: api.StmtContinue})
}

// fault is a trap that stands for the machine's.
func fault() api.Stmt { return trap(num(api.FaultCode)) }

func either(e api.Expr, then, other []api.Stmt) api.Stmt {
	return api.Stmt{Kind: api.StmtIf, Args: []api.Expr{e}, Then: then, Else: other}
}

// num is a number; the language has none below 0 but by an operator.
func num(n int) api.Expr {
	if n < 0 {
		return api.Expr{Kind: api.ExprOne, Op: api.OpInv, Args: []api.Expr{num(^n)}}
	}
	return api.Expr{Kind: api.ExprNum, N: n}
}

func name(s string) api.Expr { return api.Expr{Kind: api.ExprVar, Name: s} }

func two(op int, a, b api.Expr) api.Expr {
	return api.Expr{Kind: api.ExprTwo, Op: op, Args: []api.Expr{a, b}}
}

func index(at api.Expr) api.Expr {
	return api.Expr{Kind: api.ExprIndex, Name: memory, Args: []api.Expr{at}}
}

// call is one of a helper.
func call(helper string, with ...api.Expr) api.Expr {
	return api.Expr{Kind: api.ExprCall, Name: helper, Args: slices.Clone(with)}
}

// Names of helpers' params.
const (
	left  = "a"
	right = "b"
	third = "c"
)

// helpers are the functions that are called, in an order of their own.
func (l *lifter) helpers() []api.Func {
	sum := func() api.Expr { return two(api.OpAdd, name(left), name(right)) }
	all := []api.Func{
		{Name: fetch, Params: []string{left, right}, Body: do(leave(index(call(place, sum()))))},
		{Name: stow, Params: []string{left, right, third}, Body: do(store(call(place, sum()), name(third)))},
		{Name: place, Params: []string{left}, Body: l.placeBody()},
		{Name: quotient, Params: []string{left, right}, Body: do(
			either(name(right), do(leave(two(api.OpDiv, name(left), name(right)))), nil),
			leave(num(-1)))},
		{Name: remainder, Params: []string{left, right}, Body: do(
			either(name(right), do(leave(two(api.OpRem, name(left), name(right)))), nil),
			leave(name(left)))},
		{Name: system, Params: []string{left, right}, Body: l.systemBody()},
		{Name: deep, Body: do(leave(call(deep)))},
		{Name: land, Params: []string{left}, Body: append(l.landBody(l.landings), fault())},
	}
	if l.calls(fetch) || l.calls(stow) {
		l.wants[place] = struct{}{}
	}
	if l.calls(system) {
		l.wants[deep] = struct{}{}
	}
	var out []api.Func
	for _, f := range all {
		if l.calls(f.Name) {
			out = append(out, f)
		}
	}
	return out
}

// placeBody tells which of memory's words stands at the place a.
func (l *lifter) placeBody() []api.Stmt {
	end := api.DataBase + word*l.words
	number := func(base, ahead int) api.Stmt {
		e := two(api.OpShr, two(api.OpSub, name(left), num(base)), num(3))
		return leave(two(api.OpAdd, e, num(ahead)))
	}
	odd := two(api.OpAnd, name(left), num(word-1))
	below := two(api.OpLt, name(left), num(api.DataBase))
	gap := two(api.OpLt, name(left), num(stack))
	above := two(api.OpGe, name(left), num(api.StackTop))
	return do(
		either(two(api.OpOr, odd, below), do(fault()), nil),
		either(two(api.OpLt, name(left), num(end)), do(number(api.DataBase, 0)), nil),
		either(two(api.OpOr, gap, above), do(fault()), nil),
		number(stack, l.words))
}

// systemBody does what an ecall of number a does with b, and tells what x10 is then. An exit is main's.
func (l *lifter) systemBody() []api.Stmt {
	on := func(param string, n int, list ...api.Stmt) api.Stmt {
		return either(two(api.OpEq, name(param), num(n)), do(list...), nil)
	}
	return do(
		on(left, api.CallPrint, tell(name(right)), leave(name(right))),
		on(left, api.CallRead, leave(api.Expr{Kind: api.ExprRead})),
		on(left, api.CallEnd,
			on(right, api.StatDiv, leave(two(api.OpDiv, num(1), num(0)))),
			on(right, api.StatBounds, leave(index(num(-1)))),
			on(right, api.StatDepth, leave(call(deep)))),
		on(left, api.CallTrap, trap(name(right))),
		fault())
}

// landBody tells the block that begins at the place whose number a is, if that is one of these.
func (l *lifter) landBody(places []int) []api.Stmt {
	switch n := len(places); n {
	case 0:
		return nil
	case 1:
		return do(either(two(api.OpEq, name(left), num(size*places[0])), do(leave(num(l.number[places[0]]))), nil))
	default:
		return do(either(two(api.OpLt, name(left), num(size*places[n/2])), l.landBody(places[:n/2]), l.landBody(places[n/2:])))
	}
}
