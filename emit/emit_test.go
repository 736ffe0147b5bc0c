package emit_test

import (
	"reflect"
	"slices"
	"strconv"
	"testing"

	"counterproof/api"
	"counterproof/asm"
	"counterproof/emit"
	"counterproof/instr"
	"counterproof/irrun"
	"counterproof/lower"
	"counterproof/mach"
	"counterproof/parse"
	"counterproof/regs"
	"counterproof/samples"
)

type ins = api.Ins

func block(t api.Term, list ...ins) api.Block { return api.Block{Ins: list, Term: t} }

func ret(a int) api.Term { return api.Term{Kind: api.TermReturn, A: a} }

func unit(values int, b ...api.Block) api.Unit {
	return api.Unit{Flows: []api.Flow{{Name: "main", Values: values, Blocks: b}}}
}

func program(t *testing.T, text string) api.Unit {
	t.Helper()
	p, err, line := parse.Parse(text)
	if err != api.OK {
		t.Fatal(text, err, line)
	}
	u, err := lower.Lower(p)
	if err != api.OK {
		t.Fatal(text, err)
	}
	return u
}

func TestRegisterAndFrame(t *testing.T) { // E1
	want := []int{5, 6, 7, 9, 18, 19, 20, 21, 22, 23, 24, 25, 26, 27, 28, 29, 30, 31}
	for n, r := range want {
		if emit.Register(n) != r {
			t.Error(n, emit.Register(n))
		}
	}
	for _, n := range []int{-1, 18, 19, 1 << 62, -1 << 63} {
		if emit.Register(n) != 0 {
			t.Error(n)
		}
	}
	for seed := range 100 {
		for _, f := range samples.Unit(seed).Flows {
			for _, n := range []int{0, 1, 3, 18} {
				places := regs.Alloc(f, n)
				seen := map[int]bool{}
				for _, p := range places {
					seen[p] = p >= 0
				}
				count := 1 + regs.Slots(places)
				for _, yes := range seen {
					if yes {
						count++
					}
				}
				if emit.Frame(f, n) != count {
					t.Error(seed, n, emit.Frame(f, n), count)
				}
			}
		}
	}
	f := unit(1, block(ret(0))).Flows[0]
	if emit.Frame(f, 18) != 2 || emit.Frame(f, 0) != 2 || emit.Frame(f, -1) != 0 || emit.Frame(f, 33) != 0 || emit.Frame(api.Flow{}, 3) != 0 || emit.Frame(api.Flow{Values: 2}, 3) != 0 || emit.Frame(unit(0, block(ret(0))).Flows[0], 3) != 1 || emit.Frame(unit(-1, block(ret(0))).Flows[0], 3) != 0 || emit.Frame(unit(1, block(ret(7))).Flows[0], 3) != 0 {
		t.Error("frame")
	}
	if emit.Frame(unit(0, block(api.Term{Kind: api.TermJump})).Flows[0], 4) != 1 {
		t.Error("no values")
	}
}

// form checks what E2 says of code.
func form(t *testing.T, name string, u api.Unit, c api.Code) {
	t.Helper()
	if err, at := asm.Check(c); err != api.OK {
		t.Error(name, err, at)
	}
	if !slices.Equal(c.Arrays, u.Arrays) {
		t.Error(name, "arrays")
	}
	labels := map[string]int{}
	n := 0
	for _, l := range c.Lines {
		if l.Label != "" {
			labels[l.Label] = n
		} else {
			n++
		}
	}
	for _, f := range u.Flows {
		if at, ok := labels["f."+f.Name]; !ok || at < 1 {
			t.Error(name, f.Name, at)
		}
	}
}

// agree checks E3 at some numbers of steps.
func agree(t *testing.T, name string, u api.Unit, c api.Code, in []int, steps ...int) {
	t.Helper()
	for _, n := range steps {
		if a, b := irrun.Run(u, in, n), mach.Run(c, in, 100*n+100); !samples.Keeps(a, b) {
			t.Error(name, n, a, b)
		}
		a, b := mach.Run(c, in, n), irrun.Run(u, in, n+10)
		if !samples.Keeps(a, b) || a.Status == api.StatFault {
			t.Error(name, n, "back", a, b)
		}
	}
}

var few = []int{-1, 0, 1, 2, 3, 5, 9, 30, 100, 1000}

func TestRandom(t *testing.T) { // E2, E3, E4
	for seed := range 400 {
		u := samples.Unit(seed)
		in := samples.New(seed).Input()
		for _, n := range []int{0, 1, 2, 3, 5, 18} {
			c, err := emit.Emit(u, n)
			if err != api.OK {
				t.Fatal(seed, n, err)
			}
			name := strconv.Itoa(seed) + " " + strconv.Itoa(n)
			if widest(u, n) > api.MaxFrame {
				t.Error(name)
			}
			form(t, name, u, c)
			agree(t, name, u, c, in, few...)
			if d, _ := emit.Emit(samples.Unit(seed), n); !asm.Same(c, d) {
				t.Error(name, "not the same")
			}
		}
	}
	for seed := range 200 {
		u, _ := lower.Lower(samples.Prog(seed))
		for _, n := range []int{0, 4, 18} {
			if c, err := emit.Emit(u, n); err == api.OK {
				agree(t, "program", u, c, samples.New(seed).Input(), few...)
			}
		}
	}
}

// wide is a program whose function keeps many locals over a call of itself.
func wide(locals int, args string) string {
	text := "int f(int a, int b, int c, int d, int e, int g) {"
	sum := "a"
	for i := range locals {
		text += " int x" + strconv.Itoa(i) + ";"
		sum += " + x" + strconv.Itoa(i)
		if i%30 == 29 {
			sum = "(" + sum + ")"
		}
	}
	text += " f(" + args + ");"
	for i := range locals {
		text += " print(x" + strconv.Itoa(i) + ");"
	}
	return text + " } int main() { f(1, 2, 3, 4, 5, 6); }"
}

// widest is the greatest Frame of a unit's functions.
func widest(u api.Unit, registers int) int {
	most := 0
	for _, f := range u.Flows {
		most = max(most, emit.Frame(f, registers))
	}
	return most
}

func TestTight(t *testing.T) { // E3, where the one takes many steps, and the other one few
	for _, text := range []string{
		"int main() { while (1) { } }", "int main() { int x; int y; while (1) { x = y; y = x; x = x; print(x); } }", "int f() { } int main() { while (1) { f(); print(f()); } }", "int f() { return f(); } int main() { f(); }",
		"int f(int n) { if (n) { return f(n - 1); } return 5; } int main() { print(f(48)); print(f(49)); }",
		"int a[4]; int main() { int i; while (1) { a[i] = a[i] + i; print(a[i]); i = i + 1; } }", "int main() { print(1 / 0); }", "int main() { print(1 % 0); }", "int main() { trap(9); }", "int a[2]; int main() { a[0 - 1] = 1; }", "int a[2]; int main() { print(a[2]); }",
		"int main() { if (1) { } else { } while (0) { } return 0 - 4; }",
		wide(66, "1, 2, 3, 4, 5, 6"), wide(50, "a, b, c, d, e, g"),
	} {
		u := program(t, text)
		for _, n := range []int{0, 2, 8, 18} {
			c, err := emit.Emit(u, n)
			if err == api.ErrLimit && widest(u, n) > api.MaxFrame {
				continue
			}
			if err != api.OK {
				t.Fatal(text, n, err)
			}
			form(t, text, u, c)
			var steps []int
			for k := range 90 {
				steps = append(steps, k)
			}
			agree(t, text, u, c, []int{3, 4}, append(steps, 500, 3000)...)
		}
	}
}

func TestSelves(t *testing.T) { // E3: instructions that do nothing are steps of the code, too
	move := ins{Kind: api.InsMove}
	u := unit(2, block(api.Term{Kind: api.TermJump, To: 1}), block(api.Term{Kind: api.TermIf, A: 1, To: 1, Else: 1}, slices.Repeat([]ins{move}, 300)...))
	u.Flows[0].Blocks[1].Ins = append(u.Flows[0].Blocks[1].Ins, ins{Kind: api.InsPrint})
	for _, n := range []int{0, 1, 18} {
		c, _ := emit.Emit(u, n)
		agree(t, "selves", u, c, nil, few...)
	}
}

func TestWidestCalls(t *testing.T) { // E3, at the most that a call can have to do
	for _, n := range []int{0, 5, 9, 18} {
		var tell []ins
		for v := range 79 {
			tell = append(tell, ins{Kind: api.InsPrint, A: v})
		}
		call := ins{Kind: api.InsCall, Name: "f", Args: []int{0, 1, 2, 3, 4, 5}}
		f := api.Flow{Name: "f", Params: 6, Values: 79, Blocks: []api.Block{block(api.Term{Kind: api.TermJump, To: 1}, call), block(ret(0), tell...)}}
		f.Blocks[0].Ins[0].D = 6
		f.Blocks[0].Term = api.Term{Kind: api.TermIf, A: 6, To: 1, Else: 1}
		u := unit(6, block(ret(0), call))
		u.Flows = append(u.Flows, f)
		c, err := emit.Emit(u, n)
		if err != api.OK {
			t.Fatal(n, err)
		}
		agree(t, "widest", u, c, nil, 40, 48, 49, 50, 51, 52, 60)
	}
}

func TestErrors(t *testing.T) { // E2
	ok := unit(1, block(ret(0)))
	for i, u := range []api.Unit{{}, unit(0, block(ret(0))), unit(1)} {
		if c, err := emit.Emit(u, 3); err != api.ErrArg || !asm.Same(c, api.Code{}) {
			t.Error(i, err)
		}
	}
	for _, n := range []int{-1, 19, 1 << 62} {
		if c, err := emit.Emit(ok, n); err != api.ErrArg || !asm.Same(c, api.Code{}) {
			t.Error(n, err)
		}
	}
	// Frames of 80 words go, of 81 not.
	many := func(n int) api.Unit {
		var list []ins
		for i := range n {
			list = append(list, ins{Kind: api.InsRead, D: i})
		}
		for i := range n {
			list = append(list, ins{Kind: api.InsPrint, A: i})
		}
		return unit(n, block(ret(0), list...))
	}
	for _, n := range []int{0, 18} {
		if f := emit.Frame(many(79).Flows[0], n); f != 80 {
			t.Error(n, f)
		}
		if _, err := emit.Emit(many(79), n); err != api.OK {
			t.Error(n, err)
		}
		if c, err := emit.Emit(many(80), n); err != api.ErrLimit || !asm.Same(c, api.Code{}) {
			t.Error(n, err)
		}
	}
	long := unit(1, block(ret(0), slices.Repeat([]ins{{Kind: api.InsNum}}, 39950)...))
	if c, err := emit.Emit(long, 18); err != api.OK && err != api.ErrLimit || len(c.Lines) > api.MaxLines || err == api.OK && len(c.Lines) < 39951 {
		t.Error(err, len(c.Lines))
	}
	long = unit(1, block(ret(0), slices.Repeat([]ins{{Kind: api.InsNum}}, 40000)...))
	if c, err := emit.Emit(long, 18); err != api.ErrLimit || !asm.Same(c, api.Code{}) {
		t.Error(err)
	}
}

func TestLines(t *testing.T) { // E2: 40000 lines go, one more does not
	read := func(k int) (int, api.Errno) {
		c, err := emit.Emit(unit(1, block(ret(0), slices.Repeat([]ins{{Kind: api.InsNum, N: 7}}, k)...)), 18)
		return len(c.Lines), err
	}
	base, _ := read(1000)
	next, _ := read(1001)
	each := next - base
	most := 1000 + (api.MaxLines-base)/each
	if n, err := read(most); err != api.OK || n != base+(most-1000)*each || n > api.MaxLines {
		t.Error(n, err)
	}
	if n, err := read(most + 1); err != api.ErrLimit || n != 0 {
		t.Error(n, err)
	}
}

func TestExample(t *testing.T) {
	c, _ := emit.Emit(unit(1, block(ret(0))), 18)
	if r := mach.Run(c, nil, 1000); r.Status != api.StatDone || r.Code != 0 {
		t.Error(r)
	}
	if ins, _ := asm.Flat(c); ins[0] != (api.Instr{Op: api.InJal, Name: "f.main"}) {
		t.Error(ins[0])
	}
}

// TestLeavesRegisters calls functions from code of its own, and looks at registers then.
func TestLeavesRegisters(t *testing.T) { // E4
	kept := []int{2, 8}
	for n := range 18 {
		kept = append(kept, emit.Register(n))
	}
	returned := 0
	for seed := range 300 {
		u := samples.Unit(seed)
		if seed%2 == 0 {
			u, _ = lower.Lower(samples.Prog(seed))
		}
		for _, n := range []int{0, 2, 18} {
			c, err := emit.Emit(u, n)
			if err != api.OK {
				continue
			}
			for _, f := range u.Flows {
				own := api.Code{Arrays: c.Arrays}
				add := func(text string) {
					in, err := instr.Parse(text)
					if err != api.OK {
						t.Fatal(text)
					}
					own.Lines = append(own.Lines, api.Line{In: in})
				}
				for _, r := range kept[2:] {
					add("li x" + strconv.Itoa(r) + ", " + strconv.Itoa(r*1000+seed))
				}
				add("li x8, 3")
				add("addi x2, x2, -800")
				add("jal f." + f.Name)
				for _, r := range kept {
					add("mv x10, x" + strconv.Itoa(r))
					add("li x17, 1")
					add("ecall")
				}
				add("li x10, 4242")
				add("li x17, 3")
				add("ecall")
				own.Lines = append(own.Lines, c.Lines...)
				r := mach.Run(own, []int{1, 2, 3}, 20000)
				if r.Status != api.StatDone || r.Code != 4242 {
					continue
				}
				returned++
				want := []int{1<<30 - 800, 3}
				for _, x := range kept[2:] {
					want = append(want, x*1000+seed)
				}
				if got := r.Out[len(r.Out)-len(want):]; !slices.Equal(got, want) {
					t.Error(seed, n, f.Name, got)
				}
			}
		}
	}
	if returned < 300 {
		t.Error(returned)
	}
}

func TestNewMemory(t *testing.T) { // R3
	u := samples.Unit(8)
	c, _ := emit.Emit(u, 4)
	clear(c.Arrays)
	clear(c.Lines)
	if !reflect.DeepEqual(u, samples.Unit(8)) {
		t.Error("shared")
	}
}
