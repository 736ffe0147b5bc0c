package instr_test

import (
	"slices"
	"strings"
	"testing"

	"counterproof/api"
	"counterproof/instr"
	"counterproof/samples"
)

// has tells what each instruction has, by letters.
var has = []string{"", "DAB", "DAB", "DAB", "DAB", "DAB", "DAB", "DAB", "DAB", "DAB", "DAB", "DAB", "DAB", "DA", "DA", "DA", "DN", "DL", "DAn", "DAn", "ABn", "ABL", "ABL", "ABL", "ABL", "L", "L", "", ""}

// make is some instruction that may be.
func some(r *samples.Source) api.Instr {
	in := api.Instr{Op: 1 + r.Below(28)}
	for _, c := range has[in.Op] {
		switch c {
		case 'D':
			in.D = r.Below(32)
		case 'A':
			in.A = r.Below(32)
		case 'B':
			in.B = r.Below(32)
		case 'N':
			in.N = r.Number() - r.Number()
		case 'n':
			in.N = r.Below(4095) - 2047
		case 'L':
			in.Name = []string{"a", "f.main", "_", ".", "Z9", strings.Repeat("b", 40)}[r.Below(6)]
		}
	}
	return in
}

func TestLabel(t *testing.T) { // I1
	for _, s := range []string{"a", "z", "A", "Z", "_", ".", "a9", ".0", "f.main", strings.Repeat("x", 40)} {
		if !instr.Label(s) {
			t.Error(s)
		}
	}
	for _, s := range []string{"", "0", "9a", "a b", "a:", "é", "a\xff", "a-", "a\n", strings.Repeat("x", 41), "@", "[", "`", "{", "/"} {
		if instr.Label(s) {
			t.Error(s)
		}
	}
}

func TestRight(t *testing.T) { // I1
	r := samples.New(1)
	for range 3000 {
		in := some(r)
		if !instr.Right(in) {
			t.Error(in)
		}
		for i, bad := range []func(*api.Instr){
			func(x *api.Instr) { x.D = 32 }, func(x *api.Instr) { x.D = -1 }, func(x *api.Instr) { x.A = 32 }, func(x *api.Instr) { x.A = -1 }, func(x *api.Instr) { x.B = 32 }, func(x *api.Instr) { x.B = -1 },
			func(x *api.Instr) { x.Op = 0 }, func(x *api.Instr) { x.Op = 29 }, func(x *api.Instr) { x.Op = -1 }, func(x *api.Instr) { x.Op = 1 << 62 }, func(x *api.Instr) { x.Name += "-" },
		} {
			y := in
			bad(&y)
			if instr.Right(y) {
				t.Error(i, y)
			}
			if s, err := instr.Print(y); s != "" || err != api.ErrArg {
				t.Error(i, s, err)
			}
			if len(instr.Reads(y)) != 0 || instr.Writes(y) != 0 {
				t.Error(i, y)
			}
		}
		for c, extra := range map[string]func(*api.Instr){"D": func(x *api.Instr) { x.D = 1 }, "A": func(x *api.Instr) { x.A = 1 }, "B": func(x *api.Instr) { x.B = 1 }, "N": func(x *api.Instr) { x.N = 1 }, "L": func(x *api.Instr) { x.Name = "a" }} {
			y := in
			extra(&y)
			if instr.Right(y) != strings.Contains(strings.ToUpper(has[in.Op]), c) {
				t.Error(c, y)
			}
		}
	}
	for _, op := range []int{api.InAddi, api.InLd, api.InSd} {
		for n, want := range map[int]bool{2047: true, -2047: true, 2048: false, -2048: false, -1 << 63: false} {
			if instr.Right(api.Instr{Op: op, N: n}) != want {
				t.Error(op, n)
			}
		}
	}
	if !instr.Right(api.Instr{Op: api.InLi, N: -1 << 63}) || instr.Right(api.Instr{Op: api.InJ}) || instr.Right(api.Instr{Op: api.InLa, Name: "9"}) {
		t.Error("edges")
	}
}

func TestTexts(t *testing.T) { // I2
	for text, in := range map[string]api.Instr{
		"add x1, x2, x31": {Op: api.InAdd, D: 1, A: 2, B: 31}, "sub x0, x0, x0": {Op: api.InSub}, "mul x1, x0, x2": {Op: api.InMul, D: 1, B: 2}, "div x1, x2, x3": {Op: api.InDiv, D: 1, A: 2, B: 3}, "rem x1, x2, x3": {Op: api.InRem, D: 1, A: 2, B: 3},
		"and x1, x2, x3": {Op: api.InAnd, D: 1, A: 2, B: 3}, "or x1, x2, x3": {Op: api.InOr, D: 1, A: 2, B: 3}, "xor x1, x2, x3": {Op: api.InXor, D: 1, A: 2, B: 3}, "sll x1, x2, x3": {Op: api.InSll, D: 1, A: 2, B: 3}, "sra x1, x2, x3": {Op: api.InSra, D: 1, A: 2, B: 3}, "slt x1, x2, x3": {Op: api.InSlt, D: 1, A: 2, B: 3}, "sltu x1, x2, x3": {Op: api.InSltu, D: 1, A: 2, B: 3},
		"seqz x4, x5": {Op: api.InSeqz, D: 4, A: 5}, "snez x4, x5": {Op: api.InSnez, D: 4, A: 5}, "mv x4, x5": {Op: api.InMv, D: 4, A: 5}, "li x5, -9223372036854775808": {Op: api.InLi, D: 5, N: -1 << 63}, "li x5, 0": {Op: api.InLi, D: 5}, "la x7, arr": {Op: api.InLa, D: 7, Name: "arr"},
		"addi x2, x2, -16": {Op: api.InAddi, D: 2, A: 2, N: -16}, "ld x5, -8(x2)": {Op: api.InLd, D: 5, A: 2, N: -8}, "sd x5, 2047(x0)": {Op: api.InSd, B: 5, N: 2047},
		"beq x1, x2, x3": {Op: api.InBeq, A: 1, B: 2, Name: "x3"}, "bne x1, x2, .L": {Op: api.InBne, A: 1, B: 2, Name: ".L"}, "blt x1, x2, a": {Op: api.InBlt, A: 1, B: 2, Name: "a"}, "bge x1, x2, a": {Op: api.InBge, A: 1, B: 2, Name: "a"}, "j a": {Op: api.InJ, Name: "a"}, "jal f.main": {Op: api.InJal, Name: "f.main"}, "ret": {Op: api.InRet}, "ecall": {Op: api.InCall},
	} {
		if got, err := instr.Print(in); got != text || err != api.OK {
			t.Error(got, text, err)
		}
		if got, err := instr.Parse(text); got != in || err != api.OK {
			t.Error(got, text, err)
		}
	}
	for _, text := range []string{
		"", " ", "add", "add ", "ADD x1, x2, x3", "add x1,x2,x3", "add x1, x2", "add x1, x2, x3, x4", "add x1, x2, x32", "add x1, x2, x-1", "add x1, x2, x03", "add x1, x2, 3", "add x1, x2, x", "add x1, x2, x+3", "add  x1, x2, x3", " add x1, x2, x3", "add x1, x2, x3 ", "add\tx1, x2, x3",
		"li x1, 9223372036854775808", "li x1, -9223372036854775809", "li x1, 01", "li x1, -0", "li x1, +1", "li x1, 1_0", "li x1, 0x10", "li x1, ", "li x1", "li x1, a", "addi x1, x2, 2048", "addi x1, x2, -2048", "ld x1, 8 (x2)", "ld x1, (x2)", "ld x1, 8(x2", "ld x1, 8(x2))", "ld x1, 8(2)", "sd x1, 2048(x2)",
		"j", "j ", "j 9", "j a b", "j a,", "j " + strings.Repeat("a", 41), "jal", "ret ", "ret x1", "ecall 1", "la x1, 5", "la x1, ", "beq x1, x2, ", "beq x1, x2", "beq x1, x2, a b", "mv x1, x2, x3", "nop", "main:", "ret\n", "ret\x00",
	} {
		if got, err := instr.Parse(text); got != (api.Instr{}) || err != api.ErrAsm {
			t.Errorf("%q: %v %d", text, got, err)
		}
	}
}

func TestReadsAndWrites(t *testing.T) { // I3
	for text, want := range map[string][]int{
		"add x1, x2, x31": {2, 31, 1}, "sub x1, x2, x2": {2, 1}, "add x5, x0, x3": {3, 5}, "add x0, x3, x0": {3, 0}, "add x0, x0, x0": {0}, "seqz x4, x5": {5, 4}, "mv x4, x4": {4, 4}, "li x5, 3": {5}, "la x7, a": {7}, "addi x2, x2, 1": {2, 2}, "ld x5, 0(x2)": {2, 5}, "sd x5, 0(x2)": {2, 5, 0}, "sd x2, 0(x2)": {2, 0}, "sd x0, 0(x0)": {0},
		"beq x9, x2, a": {9, 2, 0}, "bge x0, x0, a": {0}, "j a": {0}, "jal a": {1}, "ret": {1, 0}, "ecall": {10, 17, 10}, "sltu x1, x9, x8": {9, 8, 1},
	} {
		in, _ := instr.Parse(text)
		n := len(want) - 1
		if !slices.Equal(instr.Reads(in), want[:n]) || instr.Writes(in) != want[n] {
			t.Error(text, instr.Reads(in), instr.Writes(in))
		}
	}
	if len(instr.Reads(api.Instr{})) != 0 || instr.Writes(api.Instr{}) != 0 || len(instr.Reads(api.Instr{Op: api.InAdd, A: 1, B: 32})) != 0 || instr.Writes(api.Instr{Op: api.InAdd, D: 1, B: 32}) != 0 {
		t.Error("none")
	}
}

func TestTheorem(t *testing.T) { // I4
	r := samples.New(2)
	texts := map[string]api.Instr{}
	for range 20000 {
		in := some(r)
		text, err := instr.Print(in)
		back, err2 := instr.Parse(text)
		if err != api.OK || err2 != api.OK || back != in {
			t.Fatal(in, text, back)
		}
		if x, ok := texts[text]; ok && x != in {
			t.Error(in, x)
		}
		texts[text] = in
	}
}

func FuzzParse(f *testing.F) {
	f.Add("ld x5, -8(x2)")
	f.Fuzz(func(t *testing.T, s string) {
		if in, err := instr.Parse(s); err == api.OK {
			if text, _ := instr.Print(in); text != s {
				t.Error(s, text)
			}
		} else if in != (api.Instr{}) || err != api.ErrAsm {
			t.Error(in, err)
		}
	})
}
