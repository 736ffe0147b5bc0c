package arith_test

import (
	"math/big"
	"testing"

	"counterproof/api"
	"counterproof/arith"
)

const least, most = -1 << 63, 1<<63 - 1

func edges() []int {
	out := []int{0, 1, -1, 2, -2, 3, 7, -7, 62, 63, 64, 65, -63, -64, least, least + 1, most, most - 1, 1 << 32, -1 << 32}
	x := uint64(88172645463325252)
	for range 40 {
		x ^= x << 13
		x ^= x >> 7
		x ^= x << 17
		out = append(out, int(x), int(x)>>40)
	}
	return out
}

// cut is a big number cut to 64 bits.
func cut(b *big.Int) int {
	m := new(big.Int).Lsh(big.NewInt(1), 64)
	return int(new(big.Int).Mod(b, m).Uint64())
}

func TestTwoAgainstBigNumbers(t *testing.T) { // A1
	for _, a := range edges() {
		for _, b := range edges() {
			x, y := big.NewInt(int64(a)), big.NewInt(int64(b))
			k := uint(uint64(b) & 63)
			c := x.Cmp(y)
			want := map[int]int{
				api.OpAdd: cut(new(big.Int).Add(x, y)), api.OpSub: cut(new(big.Int).Sub(x, y)), api.OpMul: cut(new(big.Int).Mul(x, y)),
				api.OpAnd: cut(new(big.Int).And(x, y)), api.OpOr: cut(new(big.Int).Or(x, y)), api.OpXor: cut(new(big.Int).Xor(x, y)),
				api.OpShl: cut(new(big.Int).Lsh(x, k)), api.OpShr: cut(new(big.Int).Rsh(x, k)),
				api.OpLt: bit(c < 0), api.OpLe: bit(c <= 0), api.OpGt: bit(c > 0), api.OpGe: bit(c >= 0), api.OpEq: bit(c == 0), api.OpNe: bit(c != 0),
			}
			if b != 0 {
				want[api.OpDiv], want[api.OpRem] = cut(new(big.Int).Quo(x, y)), cut(new(big.Int).Rem(x, y))
			}
			for op, w := range want {
				if n, ok := arith.Two(op, a, b); n != w || !ok {
					t.Fatalf("Two(%d, %d, %d): %d %v, not %d", op, a, b, n, ok, w)
				}
			}
		}
	}
}

func bit(b bool) int {
	if b {
		return 1
	}
	return 0
}

func TestTwoOfNothing(t *testing.T) { // A1, wrong inputs
	for _, op := range []int{0, -1, api.OpNeg, api.OpNot, api.OpInv, 20, most, least} {
		if n, ok := arith.Two(op, 5, 3); n != 0 || ok {
			t.Error(op, n, ok)
		}
	}
	for _, op := range []int{api.OpDiv, api.OpRem} {
		for _, a := range edges() {
			if n, ok := arith.Two(op, a, 0); n != 0 || ok {
				t.Error(op, a, n, ok)
			}
		}
	}
}

func TestOne(t *testing.T) { // A1
	for _, a := range edges() {
		for op, w := range map[int]int{api.OpNeg: 0 - a, api.OpNot: bit(a == 0), api.OpInv: -a - 1} {
			if n, ok := arith.One(op, a); n != w || !ok {
				t.Error(op, a, n, ok)
			}
		}
	}
	for op := -2; op < 30; op++ {
		if n, ok := arith.One(op, 5); ok != (op >= api.OpNeg && op <= api.OpInv) || !ok && n != 0 {
			t.Error(op, n, ok)
		}
	}
}

func TestMachine(t *testing.T) { // A2
	for _, a := range edges() {
		if arith.Div(a, 0) != -1 || arith.Rem(a, 0) != a {
			t.Error(a)
		}
		for _, b := range edges() {
			if arith.Less(a, b) != (uint64(a) < uint64(b)) {
				t.Error(a, b)
			}
			if b != 0 {
				q, _ := arith.Two(api.OpDiv, a, b)
				r, _ := arith.Two(api.OpRem, a, b)
				if arith.Div(a, b) != q || arith.Rem(a, b) != r {
					t.Error(a, b)
				}
			}
		}
	}
	if arith.Div(least, -1) != least || arith.Rem(least, -1) != 0 {
		t.Error("least")
	}
}

func TestSignAndLevel(t *testing.T) { // A3
	signs := []string{"", "+", "-", "*", "/", "%", "&", "|", "^", "<<", ">>", "<", "<=", ">", ">=", "==", "!=", "-", "!", "~", ""}
	levels := []int{0, 7, 7, 8, 8, 8, 3, 1, 2, 6, 6, 5, 5, 5, 5, 4, 4, 0, 0, 0, 0}
	for op := range signs {
		s, ok := arith.Sign(op)
		if s != signs[op] || ok != (s != "") || arith.Level(op) != levels[op] {
			t.Error(op, s, ok, arith.Level(op))
		}
	}
	for _, op := range []int{-1, 21, most, least} {
		if s, ok := arith.Sign(op); s != "" || ok || arith.Level(op) != 0 {
			t.Error(op, s, ok)
		}
	}
}

func magnitude(a int) uint64 {
	if a < 0 {
		return -uint64(a)
	}
	return uint64(a)
}

func TestTheorem(t *testing.T) { // A4
	for _, a := range edges() {
		for _, b := range edges() {
			if arith.Div(a, b)*b+arith.Rem(a, b) != a || b != 0 && magnitude(arith.Rem(a, b)) >= magnitude(b) {
				t.Error(a, b)
			}
			up, _ := arith.Two(api.OpShl, a, b)
			if back, _ := arith.Two(api.OpShr, up, b); up>>uint(b&63) == a && back != a {
				t.Error(a, b)
			}
			lt, _ := arith.Two(api.OpLt, a, b)
			eq, _ := arith.Two(api.OpEq, a, b)
			gt, _ := arith.Two(api.OpGt, a, b)
			if lt+eq+gt != 1 {
				t.Error(a, b)
			}
		}
	}
}
