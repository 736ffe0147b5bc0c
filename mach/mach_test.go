package mach_test

import (
	"reflect"
	"slices"
	"strconv"
	"strings"
	"testing"

	"counterproof/api"
	"counterproof/arith"
	"counterproof/asm"
	"counterproof/mach"
	"counterproof/samples"
)

func get(t *testing.T, text string) api.Code {
	t.Helper()
	c, err, line := asm.Parse(strings.ReplaceAll(text, ";", "\n"))
	if err != api.OK {
		t.Fatal(text, err, line)
	}
	return c
}

func same(a, b api.Run) bool {
	return a.Status == b.Status && a.Code == b.Code && a.Steps == b.Steps && slices.Equal(a.Out, b.Out)
}

func run(status, code, steps int, out ...int) api.Run {
	return api.Run{Status: status, Code: code, Steps: steps, Out: out}
}

const exit = "; li x17, 3; ecall"

func TestPlaces(t *testing.T) { // M1
	c := get(t, ".array a 3; .array b 2; ret")
	bad := api.Code{Arrays: c.Arrays, Lines: []api.Line{{}}}
	if mach.Addr(c, "a") != 65536 || mach.Addr(c, "b") != 65536+24 || mach.Addr(c, "c") != -1 || mach.Addr(c, "") != -1 || mach.Addr(bad, "a") != -1 || mach.Addr(api.Code{}, "a") != -1 {
		t.Error("addr")
	}
	const low = 1<<30 - 8*4096
	for at, want := range map[int]int{65536: 0, 65544: 1, 65536 + 32: 4, 65536 + 40: -1, 65535: -1, 65537: -1, 65528: -1, 0: -1, -8: -1, low: 5, low - 8: -1, low + 4: -1, 1<<30 - 8: 5 + 4095, 1 << 30: -1, -1 << 63: -1, 1<<63 - 8: -1} {
		if mach.Where(c, at) != want || mach.Where(bad, at) != -1 {
			t.Error(at, mach.Where(c, at))
		}
	}
	if mach.Where(api.Code{}, 65536) != -1 || mach.Where(api.Code{}, low) != 0 {
		t.Error("where")
	}
}

func TestArithmetic(t *testing.T) { // M2
	r := samples.New(5)
	for range 400 {
		a, b := r.Number()-r.Number(), r.Number()-r.Number()
		lt, bare := 0, 0
		if a < b {
			lt = 1
		}
		if arith.Less(a, b) {
			bare = 1
		}
		want := map[string]int{"add": a + b, "sub": a - b, "mul": a * b, "div": arith.Div(a, b), "rem": arith.Rem(a, b), "and": a & b, "or": a | b, "xor": a ^ b, "sll": a << uint(b&63), "sra": a >> uint(b&63), "slt": lt, "sltu": bare}
		for op, w := range want {
			c := get(t, "li x5, "+strconv.Itoa(a)+"; li x6, "+strconv.Itoa(b)+"; "+op+" x10, x5, x6"+exit)
			if got := mach.Run(c, nil, 100); !same(got, run(1, w, 5)) {
				t.Error(op, a, b, got, w)
			}
		}
	}
}

func TestRun(t *testing.T) { // M2
	for i, c := range []struct {
		text string
		in   []int
		want api.Run
	}{
		{"", nil, run(6, 0, 0)},
		{"li x17, 3; li x10, 7; ecall", nil, run(1, 7, 3)},
		{"ret", nil, run(6, 0, 1)},
		{"ld x0, 0(x0)", nil, run(6, 0, 1)},
		{"ecall", nil, run(6, 0, 1)},
		{"mv x10, x2" + exit, nil, run(1, 1<<30, 3)},
		{"li x0, 5; addi x0, x0, 7; mv x10, x0" + exit, nil, run(1, 0, 5)},
		{"seqz x5, x0; snez x6, x5; seqz x7, x6; snez x8, x7; sll x10, x5, x6; add x10, x10, x7; add x10, x10, x8" + exit, nil, run(1, 2, 9)},
		{"addi x10, x2, -2047" + exit, nil, run(1, 1<<30-2047, 3)},
		{"addi x2, x2, -16; li x5, 9; sd x5, 8(x2); ld x10, 8(x2); ld x6, 0(x2); add x10, x10, x6" + exit, nil, run(1, 9, 8)},
		{"ld x5, 0(x2)", nil, run(6, 0, 1)}, {"sd x5, -8(x2); sd x5, 0(x2)", nil, run(6, 0, 2)}, {"ld x5, -4(x2)", nil, run(6, 0, 1)}, {"li x5, 1073709056; ld x6, 0(x5); ld x6, -8(x5)", nil, run(6, 0, 3)},
		{".array a 2; .array b 1; la x5, b; li x6, 3; sd x6, 0(x5); la x5, a; sd x5, 8(x5); ld x10, 16(x5)" + exit, nil, run(1, 3, 8)},
		{".array a 2; la x5, a; ld x6, 16(x5)", nil, run(6, 0, 2)}, {".array a 2; la x5, a; sd x6, -8(x5)", nil, run(6, 0, 2)},
		{"li x17, 2; ecall; mv x5, x10; ecall; li x17, 1; ecall; mv x10, x5; ecall; ", []int{4, -6}, run(6, 0, 8, -6, 4)},
		{"li x17, 2; ecall; ecall; li x17, 1; ecall; j e; li x5, 1; e:", []int{4}, run(6, 0, 6, -1)},
		{"li x17, 4; li x10, 2; ecall", nil, run(2, 0, 3)}, {"li x17, 4; li x10, 3; ecall", nil, run(3, 0, 3)}, {"li x17, 4; li x10, 4; ecall", nil, run(4, 0, 3)}, {"li x17, 4; li x10, 1; ecall", nil, run(6, 0, 3)}, {"li x17, 4; li x10, 5; ecall", nil, run(6, 0, 3)}, {"li x17, 4; ecall", nil, run(6, 0, 2)},
		{"li x17, 5; li x10, -3; ecall", nil, run(5, -3, 3)}, {"li x17, 6; ecall", nil, run(6, 0, 2)}, {"li x17, -1; ecall", nil, run(6, 0, 2)},
		{"jal f; li x17, 3; ecall; f: ; mv x10, x1; ret", nil, run(1, 4, 5)},
		{"j m; f: ; li x17, 1; ecall; ret; m: ; jal f", nil, run(6, 0, 5, 0)},
		{"li x1, 8; ret; ret", nil, run(6, 0, 2)}, {"j a; jal a; li x10, 3; li x17, 3; ecall; a: ; li x1, 8; ret", nil, run(1, 3, 6)}, {"j a; jal a; a: ; li x1, 9; ret", nil, run(6, 0, 3)}, {"j a; jal a; a: ; li x1, -8; ret", nil, run(6, 0, 3)}, {"j a; jal a; a: ; li x1, 400; ret", nil, run(6, 0, 3)}, {"j a; jal a; a: ; li x1, 4; ret", nil, run(6, 0, 3)},
		{"li x5, -1; blt x5, x0, a; ecall; a: ; bge x5, x0, b; bge x0, x5, c; ecall; c: ; beq x5, x0, b; beq x5, x5, d; b: ; ecall; d: ; bne x5, x5, b; bne x5, x0, e; ecall; e: ; li x10, 1" + exit, nil, run(1, 1, 11)},
		{"li x5, 3; snez x6, x5; snez x7, x0; seqz x8, x5; seqz x9, x0; li x10, 1000; mul x10, x10, x6; li x5, 100; mul x7, x7, x5; add x10, x10, x7; li x5, 10; mul x8, x8, x5; add x10, x10, x8; add x10, x10, x9" + exit, nil, run(1, 1001, 16)},
		{"li x5, 4; li x6, 4; blt x5, x6, a; bge x5, x6, b; a: ; ecall; b: ; bne x5, x6, a; beq x5, x6, c; ecall; c: ; li x10, 2" + exit, nil, run(1, 2, 9)},
		{"ld x5, 0(x2); li x10, 1" + exit, nil, run(6, 0, 1)}, {"sd x5, 0(x2); li x10, 1" + exit, nil, run(6, 0, 1)}, {"ret; li x10, 1" + exit, nil, run(6, 0, 1)}, {"ecall; li x10, 1" + exit, nil, run(6, 0, 1)}, {"li x17, 4; li x10, 1; ecall; li x10, 1" + exit, nil, run(6, 0, 3)}, {"li x17, 7; ecall; li x10, 1" + exit, nil, run(6, 0, 2)}, {"li x17, 5; ecall; li x10, 1" + exit, nil, run(5, 0, 2)}, {"li x17, 3; ecall; ecall", nil, run(1, 0, 2)}, {"li x17, 4; li x10, 3; ecall; ecall", nil, run(3, 0, 3)},
		{"ecall_:; li x5, 3; a: ; addi x5, x5, -1; bne x5, x0, a; mv x10, x5" + exit, nil, run(1, 0, 10)},
		{"li x17, 9223372036854775807; addi x17, x17, 1; li x5, -9223372036854775808; sub x17, x17, x5; addi x17, x17, 3; ecall", nil, run(1, 0, 6)},
	} {
		code := get(t, c.text)
		got := mach.Run(code, c.in, 1000)
		if !same(got, c.want) {
			t.Error(i, c.text, got, c.want)
		}
		for n := -1; n < 15; n++ {
			r := mach.Run(code, c.in, n)
			if n >= got.Steps && !same(r, got) {
				t.Error(i, n, r)
			}
			if max(n, 0) < got.Steps && (r.Status != api.StatGoing || r.Code != 0 || r.Steps != max(n, 0) || !slices.Equal(r.Out, got.Out[:len(r.Out)])) {
				t.Error(i, n, r)
			}
		}
	}
	if r := mach.Run(api.Code{Lines: []api.Line{{}}}, []int{1}, 5); !reflect.DeepEqual(r, api.Run{}) {
		t.Error(r)
	}
	if r := mach.Run(get(t, "a: ; j a"), nil, -1<<63); !same(r, api.Run{}) {
		t.Error(r)
	}
}

func TestTheorem(t *testing.T) { // M3
	ended := 0
	for seed := range 600 {
		c := samples.Code(seed)
		in := samples.New(seed).Input()
		r := mach.Run(c, in, 500)
		if r.Status != api.StatGoing {
			ended++
		}
		for _, n := range []int{3, 499, 501, 2000} {
			q := mach.Run(c, in, n)
			if r.Status != api.StatGoing && n >= r.Steps && !same(q, r) || q.Steps > max(n, 0) {
				t.Error(seed, n)
			}
			k := min(len(q.Out), len(r.Out))
			if !slices.Equal(q.Out[:k], r.Out[:k]) {
				t.Error(seed, n)
			}
		}
	}
	if ended < 100 {
		t.Error("too few end", ended)
	}
	c := get(t, ".array a 4; li x17, 2; ecall; mv x9, x10; la x5, a; sd x9, 24(x5); ld x11, 24(x5); sd x11, -8(x2); ld x10, -8(x2)"+exit)
	for _, n := range []int{0, -1, 1 << 62, -1 << 63} {
		if r := mach.Run(c, []int{n, 3}, 100); !same(r, run(1, n, 10)) {
			t.Error(r)
		}
	}
}
