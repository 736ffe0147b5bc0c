// Package arith is layer 1: what operators make of numbers of 64 bits.
package arith

import "counterproof/api"

// row is what there is to know of an operator: of the functions it has the one that fits how many numbers it takes.
type row struct {
	sign  string
	level int
	two   func(a, b int) (int, bool)
	one   func(a int) int
}

// find is an operator's row, an empty one of what is no operator. It is a switch, not a table that is looked up, since machines ask for a row at each of their steps.
func find(op int) row {
	switch op {
	case api.OpAdd:
		return row{sign: "+", level: 7, two: add}
	case api.OpSub:
		return row{sign: "-", level: 7, two: sub}
	case api.OpMul:
		return row{sign: "*", level: 8, two: mul}
	case api.OpDiv:
		return row{sign: "/", level: 8, two: quotient}
	case api.OpRem:
		return row{sign: "%", level: 8, two: remainder}
	case api.OpAnd:
		return row{sign: "&", level: 3, two: and}
	case api.OpOr:
		return row{sign: "|", level: 1, two: or}
	case api.OpXor:
		return row{sign: "^", level: 2, two: xor}
	case api.OpShl:
		return row{sign: "<<", level: 6, two: up}
	case api.OpShr:
		return row{sign: ">>", level: 6, two: down}
	}
	return findRest(op)
}

// findRest is find of comparisons, and of operators of one number.
func findRest(op int) row {
	switch op {
	case api.OpLt:
		return row{sign: "<", level: 5, two: func(a, b int) (int, bool) { return truth(a < b), true }}
	case api.OpLe:
		return row{sign: "<=", level: 5, two: func(a, b int) (int, bool) { return truth(a <= b), true }}
	case api.OpGt:
		return row{sign: ">", level: 5, two: func(a, b int) (int, bool) { return truth(a > b), true }}
	case api.OpGe:
		return row{sign: ">=", level: 5, two: func(a, b int) (int, bool) { return truth(a >= b), true }}
	case api.OpEq:
		return row{sign: "==", level: 4, two: func(a, b int) (int, bool) { return truth(a == b), true }}
	case api.OpNe:
		return row{sign: "!=", level: 4, two: func(a, b int) (int, bool) { return truth(a != b), true }}
	case api.OpNeg:
		return row{sign: "-", one: func(a int) int { return -a }}
	case api.OpNot:
		return row{sign: "!", one: func(a int) int { return truth(a == 0) }}
	case api.OpInv:
		return row{sign: "~", one: func(a int) int { return ^a }}
	}
	return row{}
}

func add(a, b int) (int, bool) { return a + b, true }
func sub(a, b int) (int, bool) { return a - b, true }
func mul(a, b int) (int, bool) { return a * b, true }
func and(a, b int) (int, bool) { return a & b, true }
func or(a, b int) (int, bool)  { return a | b, true }
func xor(a, b int) (int, bool) { return a ^ b, true }

// up and down look at six bits of b alone, as the machine does.
func up(a, b int) (int, bool)   { return a << uint(b&63), true }
func down(a, b int) (int, bool) { return a >> uint(b&63), true }

func quotient(a, b int) (int, bool) {
	if b == 0 {
		return 0, false
	}
	return a / b, true
}

func remainder(a, b int) (int, bool) {
	if b == 0 {
		return 0, false
	}
	return a % b, true
}

func truth(b bool) int {
	if b {
		return 1
	}
	return 0
}

// Two is what an operator makes of two numbers; false: it makes nothing of them.
func Two(op, a, b int) (int, bool) {
	r := find(op)
	if r.two == nil {
		return 0, false
	}
	return r.two(a, b)
}

// One is what an operator makes of one number; false: it is none of these.
func One(op, a int) (int, bool) {
	r := find(op)
	if r.one == nil {
		return 0, false
	}
	return r.one(a), true
}

// Div is the machine's quotient, which is told always.
func Div(a, b int) int {
	if b == 0 {
		return -1
	}
	return a / b
}

// Rem is the machine's remainder, which is told always.
func Rem(a, b int) int {
	if b == 0 {
		return a
	}
	return a % b
}

// Less tells whether a is below b, both as numbers without a sign.
func Less(a, b int) bool { return uint(a) < uint(b) }

// Sign is an operator's text.
func Sign(op int) (string, bool) {
	s := find(op).sign
	return s, s != ""
}

// Level is how strongly an operator of two numbers binds, 0 of others.
func Level(op int) int { return find(op).level }
