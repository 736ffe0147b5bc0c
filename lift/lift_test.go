package lift_test

import (
	"reflect"
	"slices"
	"strconv"
	"strings"
	"testing"

	"counterproof/api"
	"counterproof/asm"
	"counterproof/check"
	"counterproof/compile"
	"counterproof/eval"
	"counterproof/lift"
	"counterproof/mach"
	"counterproof/samples"
	"counterproof/tree"
)

func get(t *testing.T, text string) api.Code {
	t.Helper()
	c, err, line := asm.Parse(strings.ReplaceAll(text, ";", "\n"))
	if err != api.OK {
		t.Fatal(text, err, line)
	}
	return c
}

func TestSeen(t *testing.T) { // V1
	out := []int{1, 2}
	for status := range 8 {
		r := api.Run{Status: status, Code: 3, Out: out, Steps: 9}
		want := r
		if status == api.StatFault {
			want.Status, want.Code = api.StatTrap, 1<<40
		}
		got := lift.Seen(r)
		if !reflect.DeepEqual(got, want) {
			t.Error(got)
		}
		got.Out[0] = 7
	}
	if out[0] != 1 || !reflect.DeepEqual(lift.Seen(api.Run{}), api.Run{}) {
		t.Error("shared")
	}
}

// form checks what V2 says of a program.
func form(t *testing.T, name string, c api.Code, p api.Prog) {
	t.Helper()
	if err, at := check.Check(p); err != api.OK {
		t.Fatal(name, err, at)
	}
	words := api.StackWords
	for _, a := range c.Arrays {
		words += a.Size
	}
	if len(p.Arrays) != 1 || p.Arrays[0].Size != words {
		t.Error(name, p.Arrays)
	}
	for _, f := range p.Funcs {
		if len(f.Params)+len(f.Locals) > 60 {
			t.Error(name, f.Name)
		}
	}
}

// agree checks V3 at some numbers of steps.
func agree(t *testing.T, name string, c api.Code, p api.Prog, in []int, steps ...int) {
	t.Helper()
	for _, n := range steps {
		if a, b := lift.Seen(mach.Run(c, in, n)), eval.Run(p, in, 250*n+500); !samples.Keeps(a, b) {
			t.Error(name, n, a, b)
		}
		if a, b := eval.Run(p, in, n), lift.Seen(mach.Run(c, in, n+10)); !samples.Keeps(a, b) {
			t.Error(name, n, "back", a, b)
		}
	}
}

func both(t *testing.T, name string, c api.Code, in []int, steps ...int) {
	t.Helper()
	p, err := lift.Lift(c)
	if err != api.OK {
		t.Fatal(name, err)
	}
	form(t, name, c, p)
	agree(t, name, c, p, in, steps...)
}

func TestRandom(t *testing.T) { // V2, V3
	for seed := range 600 {
		c := samples.Code(seed)
		both(t, strconv.Itoa(seed), c, samples.New(seed).Input(), -1, 0, 1, 2, 3, 5, 10, 30, 100, 500)
		p, _ := lift.Lift(c)
		if q, _ := lift.Lift(samples.Code(seed)); !tree.Same(p, q) {
			t.Error(seed)
		}
	}
}

func TestCompiled(t *testing.T) { // V3, of what was compiled
	for seed := range 60 {
		for level := range 3 {
			if c, err, _ := compile.Tree(samples.Prog(seed), level); err == api.OK {
				both(t, strconv.Itoa(seed), c, samples.New(seed).Input(), 0, 10, 100, 1000)
			}
		}
	}
}

func TestEachInstruction(t *testing.T) { // V3
	numbers := []int{0, 1, -1, 5, -7, 63, 64, 1 << 62, -1 << 63, 1<<63 - 1, 65536}
	for _, op := range strings.Fields("add sub mul div rem and or xor sll sra slt sltu") {
		for _, a := range numbers {
			for _, b := range numbers {
				both(t, op, get(t, "li x5, "+strconv.Itoa(a)+"; li x6, "+strconv.Itoa(b)+"; "+op+" x5, x5, x6; "+op+" x0, x5, x6; mv x10, x5; li x17, 3; ecall"), nil, 100)
			}
		}
	}
	for _, op := range []string{"seqz x10, x5", "snez x10, x5", "mv x10, x5", "addi x10, x5, -2047", "addi x10, x5, 2047", "seqz x0, x5", "addi x0, x5, 1", "li x0, 4", "seqz x10, x0", "snez x10, x0", "mv x10, x0", "addi x10, x0, -3", "add x0, x5, x5; mv x10, x0", "li x0, 7; add x10, x0, x5", "la x0, w; seqz x10, x0", "addi x0, x0, 9; ld x0, -8(x2); sd x0, -8(x2); ld x10, -8(x2)", "li x0, 5; bne x0, x0, z; li x10, 6; z: "} {
		for _, a := range numbers {
			both(t, op, get(t, ".array w 2; li x5, "+strconv.Itoa(a)+"; "+op+"; li x17, 3; ecall"), nil, 100)
		}
	}
	for _, op := range []string{"beq", "bne", "blt", "bge"} {
		for _, a := range numbers {
			for _, b := range numbers {
				both(t, op, get(t, "li x5, "+strconv.Itoa(a)+"; li x6, "+strconv.Itoa(b)+"; "+op+" x5, x6, l; li x10, 1; l: ; li x17, 3; ecall"), nil, 100)
			}
		}
	}
}

func TestBadlyBehaved(t *testing.T) { // V4
	var list []string
	for _, at := range []int{0, 8, 65528, 65536, 65537, 65540, 65544, 65552, 65560, 1 << 30, 1<<30 - 8, 1<<30 - 4, 1<<30 - 8*4096, 1<<30 - 8*4097, -8, -1 << 63, 1<<63 - 8} {
		for _, op := range []string{"ld x6, 0(x5)", "sd x6, 0(x5)", "ld x0, 0(x5)", "sd x0, 8(x5)", "ld x6, -8(x5)", "ld x6, 3(x5)"} {
			for _, array := range []string{"", ".array a 2; ", ".array a 1; .array b 1;"} {
				list = append(list, array+"li x5, "+strconv.Itoa(at)+"; "+op+"; li x10, 1; li x17, 3; ecall")
			}
		}
	}
	for _, what := range []int{-1, 0, 1, 2, 3, 4, 5, 6, 1 << 40} {
		for x := -1; x < 8; x++ {
			list = append(list, "li x17, "+strconv.Itoa(what)+"; li x10, "+strconv.Itoa(x)+"; ecall; mv x10, x10; li x17, 1; ecall")
		}
	}
	for _, at := range []int{0, 4, 8, 12, 16, 20, 24, 28, 9, -4, 1 << 62} {
		list = append(list, "j m; jal m; ecall; jal m; m: ; li x1, "+strconv.Itoa(at)+"; ret; jal m", "li x1, "+strconv.Itoa(at)+"; ret", "jal m; m: ; li x10, 4; li x17, 1; ecall; li x1, "+strconv.Itoa(at)+"; ret")
	}
	list = append(list, "", "a: ; b:", "ret", "ld x0, 0(x0)", "j e; e:", "jal e; e:", "e: ; jal e", "a: ; j a", "a: ; li x0, 1; mv x5, x5; add x0, x0, x0; j a", "ecall", "li x5, 1", "mv x10, x2; li x17, 3; ecall", ".array a 3; .array b 4; la x10, b; la x0, a; li x17, 3; ecall", "li x17, 4; li x10, 4; ecall", "f: ; addi x2, x2, -8; sd x1, 0(x2); jal f")
	for _, between := range []string{"addi x17, x17, 1", "mv x17, x0", "ld x17, -8(x2)", "la x17, w", "seqz x17, x17", "li x17, 4", "li x5, 4", "l: ; li x6, 2", "jal l; l: ", "add x17, x0, x17", "li x17, -1", "bne x9, x0, e; li x9, 1; li x17, 2; j k; k: ", "blt x9, x0, e; addi x17, x17, 1; e: "} {
		for k := 1; k <= 5; k++ {
			text := ".array w 1; li x10, 4; li x17, " + strconv.Itoa(k) + "; " + between + "; ecall; ecall; mv x17, x9; ecall; "
			if !strings.Contains(between, "e: ") {
				text += "e: ; li x17, 1; ecall"
			}
			list = append(list, text)
		}
	}
	for _, text := range list {
		c := get(t, text)
		both(t, text, c, []int{6}, 0, 1, 2, 3, 4, 5, 6, 7, 8, 9, 20, 300)
		p, _ := lift.Lift(c)
		r := eval.Run(p, []int{6}, 100000)
		if r.Status == api.StatFault || r.Status != lift.Seen(mach.Run(c, []int{6}, 1000)).Status && r.Status != api.StatGoing {
			t.Error(text, r)
		}
	}
}

func TestManyBlocks(t *testing.T) { // V3: steps of the program, at the greatest number of instructions
	var text strings.Builder
	text.WriteString("li x5, 60\nm:\n")
	for i := range 6600 {
		k := strconv.Itoa((i*7919 + 1) % 6600)
		text.WriteString("l" + strconv.Itoa(i) + ":\naddi x5, x5, -1\nbne x5, x0, l" + k + "\nret\n")
	}
	text.WriteString("jal m\nli x17, 1\necall\n")
	c := get(t, text.String())
	p, err := lift.Lift(c)
	if err != api.OK {
		t.Fatal(err)
	}
	form(t, "many", c, p)
	agree(t, "many", c, p, nil, 0, 1, 10, 121, 122, 130)
	calls := get(t, strings.Repeat("jal f\n", 19998)+"f:\naddi x1, x1, 0\nret")
	q, err := lift.Lift(calls)
	if err != api.OK {
		t.Fatal(err)
	}
	agree(t, "calls", calls, q, nil, 0, 1, 2, 3, 4, 5, 6, 7, 100, 2000)
}

func TestErrors(t *testing.T) { // V2
	ret := api.Line{In: api.Instr{Op: api.InRet}}
	for i, x := range []struct {
		c   api.Code
		err api.Errno
	}{
		{api.Code{Lines: []api.Line{{}}}, api.ErrArg}, {api.Code{Arrays: []api.Array{{Name: "a"}}}, api.ErrArg}, {api.Code{Lines: slices.Repeat([]api.Line{ret}, 40001)}, api.ErrArg},
		{api.Code{Lines: slices.Repeat([]api.Line{ret}, 20001)}, api.ErrLimit}, {api.Code{Lines: slices.Repeat([]api.Line{ret}, 20000)}, api.OK},
		{api.Code{Arrays: []api.Array{{Name: "a", Size: 1<<20 - 4096}}}, api.OK}, {api.Code{Arrays: []api.Array{{Name: "a", Size: 1<<20 - 4095}}}, api.ErrLimit}, {api.Code{Arrays: []api.Array{{Name: "a", Size: 1 << 19}, {Name: ".b", Size: 1 << 19}}}, api.ErrLimit}, {api.Code{Arrays: []api.Array{{Name: "main", Size: 9}, {Name: "x5", Size: 1}}}, api.OK},
	} {
		p, err := lift.Lift(x.c)
		if err != x.err || err != api.OK && !tree.Same(p, api.Prog{}) {
			t.Error(i, err)
		}
		if err == api.OK {
			form(t, "limit", x.c, p)
		}
	}
}

func TestExample(t *testing.T) {
	p, _ := lift.Lift(get(t, "li x17, 3; li x10, 7; ecall"))
	if r := eval.Run(p, nil, 1000); r.Status != api.StatDone || r.Code != 7 {
		t.Error(r)
	}
}
