package emit

import "counterproof/api"

// Each instruction of a unit, and each end, becomes at least one of code, a move of a value to itself, too: so the unit never has to go far ahead of its code.

// slot is the word of the call in which a value is kept; false: it is kept in a register.
func (w *writer) slot(v int) (int, bool) { return w.frame + w.places[v], w.places[v] < 0 }

// put brings a register's number to a value.
func (w *writer) put(v, r int) {
	if at, ok := w.slot(v); ok {
		w.save(r, at)
		return
	}
	w.add(api.Instr{Op: api.InMv, D: Register(w.places[v]), A: r})
}

// get brings a value's number to a register.
func (w *writer) get(r, v int) {
	if at, ok := w.slot(v); ok {
		w.restore(r, at)
		return
	}
	w.add(api.Instr{Op: api.InMv, D: r, A: Register(w.places[v])})
}

// source is the register in which a value's number is to be found, its own, or one for a moment.
func (w *writer) source(v, other int) int {
	if at, ok := w.slot(v); ok {
		w.restore(other, at)
		return other
	}
	return Register(w.places[v])
}

// target is the register that is to be set for a value; settle is called behind that.
func (w *writer) target(v int) int {
	if _, ok := w.slot(v); ok {
		return moment
	}
	return Register(w.places[v])
}

func (w *writer) settle(v int) {
	if at, ok := w.slot(v); ok {
		w.save(moment, at)
	}
}

func (w *writer) ins(x api.Ins) {
	switch x.Kind {
	case api.InsPrint:
		w.get(result, x.A)
		w.ecall(api.CallPrint)
	case api.InsRead:
		w.ecall(api.CallRead)
		w.put(x.D, result)
	case api.InsCall:
		for i, v := range x.Args {
			w.get(param+i, v)
		}
		w.call(x.Name)
		w.put(x.D, result)
	case api.InsMove:
		w.put(x.D, w.source(x.A, moment))
	case api.InsStore:
		w.address(x)
		w.three(api.InSd, zero, moment, w.source(x.B, second))
	default:
		w.reckon(x, w.target(x.D))
		w.settle(x.D)
	}
}

// reckon sets a register to what an instruction makes.
func (w *writer) reckon(x api.Ins, d int) {
	switch x.Kind {
	case api.InsNum:
		w.li(d, x.N)
	case api.InsOne:
		w.one(x.Op, d, w.source(x.A, moment))
	case api.InsTwo:
		a := w.source(x.A, moment)
		w.two(x.Op, d, a, w.source(x.B, second))
	case api.InsLoad:
		w.address(x)
		w.add(api.Instr{Op: api.InLd, D: d, A: moment})
	}
}

// address is where an array's word stands, which must be there.
func (w *writer) address(x api.Ins) {
	a := w.source(x.A, moment)
	w.li(second, w.sizes[x.Name])
	w.three(api.InSltu, second, a, second)
	w.branch(api.InBeq, second, zero, beyond)
	w.li(second, 3)
	w.three(api.InSll, moment, a, second)
	w.add(api.Instr{Op: api.InLa, D: second, Name: x.Name})
	w.three(api.InAdd, moment, moment, second)
}

func (w *writer) one(op, d, a int) {
	switch op {
	case api.OpNeg:
		w.three(api.InSub, d, zero, a)
	case api.OpNot:
		w.add(api.Instr{Op: api.InSeqz, D: d, A: a})
	case api.OpInv:
		w.li(second, -1)
		w.three(api.InXor, d, a, second)
	}
}

// plain is the instruction that does what an operator does, where that can be done; 0: there is none.
func plain(op int) int {
	switch op {
	case api.OpAdd:
		return api.InAdd
	case api.OpSub:
		return api.InSub
	case api.OpMul:
		return api.InMul
	case api.OpDiv:
		return api.InDiv
	case api.OpRem:
		return api.InRem
	case api.OpAnd:
		return api.InAnd
	case api.OpOr:
		return api.InOr
	case api.OpXor:
		return api.InXor
	case api.OpShl:
		return api.InSll
	case api.OpShr:
		return api.InSra
	case api.OpLt:
		return api.InSlt
	}
	return 0
}

func (w *writer) two(op, d, a, b int) {
	switch op {
	case api.OpGt:
		w.three(api.InSlt, d, b, a)
	case api.OpLe:
		w.three(api.InSlt, d, b, a)
		w.add(api.Instr{Op: api.InSeqz, D: d, A: d})
	case api.OpGe:
		w.three(api.InSlt, d, a, b)
		w.add(api.Instr{Op: api.InSeqz, D: d, A: d})
	case api.OpEq:
		w.three(api.InXor, d, a, b)
		w.add(api.Instr{Op: api.InSeqz, D: d, A: d})
	case api.OpNe:
		w.three(api.InXor, d, a, b)
		w.add(api.Instr{Op: api.InSnez, D: d, A: d})
	case api.OpDiv, api.OpRem:
		w.branch(api.InBeq, b, zero, divided)
		w.three(plain(op), d, a, b)
	default:
		w.three(plain(op), d, a, b)
	}
}

func (w *writer) end(t api.Term) {
	switch t.Kind {
	case api.TermJump:
		w.jump(w.blocks[t.To])
	case api.TermIf:
		w.branch(api.InBne, w.source(t.A, moment), zero, w.blocks[t.To])
		w.jump(w.blocks[t.Else])
	case api.TermReturn:
		w.get(result, t.A)
		w.jump(w.exit)
	case api.TermTrap:
		w.get(result, t.A)
		w.ecall(api.CallTrap)
	}
}
