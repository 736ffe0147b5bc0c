package round_test

import (
	"strconv"
	"strings"
	"testing"

	"counterproof/api"
	"counterproof/asm"
	"counterproof/compile"
	"counterproof/lift"
	"counterproof/mach"
	"counterproof/round"
	"counterproof/samples"
	"counterproof/tree"
)

func get(t *testing.T, text string) api.Code {
	t.Helper()
	c, err, line := asm.Parse(strings.ReplaceAll(text, ";", "\n"))
	if err != api.OK {
		t.Fatal(text, err, line)
	}
	return c
}

func TestAgain(t *testing.T) { // R1
	for seed := range 30 {
		c := samples.Code(seed)
		p, _ := lift.Lift(c)
		for level := range 3 {
			want, _, _ := compile.Tree(p, level)
			if got, err := round.Again(c, level); err != api.OK || !asm.Same(got, want) {
				t.Error(seed, err)
			}
		}
	}
	ret := api.Line{In: api.Instr{Op: api.InRet}}
	long := api.Code{}
	for range 20001 {
		long.Lines = append(long.Lines, ret)
	}
	wide := api.Code{Lines: append([]api.Line{}, long.Lines[:19000]...)}
	for i, x := range []struct {
		c     api.Code
		level int
		err   api.Errno
	}{{api.Code{Lines: []api.Line{{}}}, 1, api.ErrArg}, {long, 9, api.ErrLimit}, {get(t, "ret"), 3, api.ErrArg}, {get(t, "ret"), -1, api.ErrArg}, {wide, 1, api.ErrLimit}} {
		if c, err := round.Again(x.c, x.level); err != x.err || !asm.Same(c, api.Code{}) {
			t.Error(i, err)
		}
	}
}

func TestTrip(t *testing.T) { // R2
	for _, text := range []string{"int main() { return 3; }", "int a[3]; int main() { a[1] = read(); print(a[1] / a[2]); }", "int f(int n) { if (n < 2) { return n; } return f(n - 1) + f(n - 2); } int main() { print(f(9)); trap(f(3)); }"} {
		for level := range 3 {
			c, p, again, err, line := round.Trip(text, level)
			want, _, _ := compile.Compile(text, level)
			lifted, _ := lift.Lift(want)
			other, _ := round.Again(want, level)
			if err != api.OK || line != 0 || !asm.Same(c, want) || !tree.Same(p, lifted) || !asm.Same(again, other) {
				t.Error(text, level, err, line)
			}
			for _, steps := range []int{0, 10, 1000, 200000} {
				if !round.Agree(c, again, []int{5}, steps) {
					t.Error(text, level, steps)
				}
			}
		}
	}
	for _, x := range []struct {
		text  string
		level int
		err   api.Errno
		line  int
	}{{"int main() {\n", 1, api.ErrParse, 2}, {"int main() { x = 1; }", 0, api.ErrUnknown, 2}, {"int main() { }", 3, api.ErrArg, 1}, {"int a[1048576]; int main() { }", 1, api.ErrLimit, 1}, {"int a[1044480]; int main() { }", 1, api.OK, 0}} {
		c, p, again, err, line := round.Trip(x.text, x.level)
		if err != x.err || line != x.line || err != api.OK && (!asm.Same(c, api.Code{}) || !tree.Same(p, api.Prog{}) || !asm.Same(again, api.Code{})) {
			t.Errorf("%.40q %d %d", x.text, err, line)
		}
	}
}

func TestLongTrip(t *testing.T) { // R2: what is too long has line 1, wherever that is found
	many := "\n\nint main() { int x;" + strings.Repeat("x=x*x/3;", 2400) + "print(x);}"
	for level := range 3 {
		_, _, again, err, line := round.Trip(many, level)
		if err == api.OK && (line != 0 || len(again.Lines) == 0) || err != api.OK && (err != api.ErrLimit || line != 1 || len(again.Lines) > 0) {
			t.Error(level, err, line)
		}
	}
}

func TestAgree(t *testing.T) { // R3
	tell := func(list string) string {
		out := "li x17, 1;"
		for _, n := range strings.Fields(list) {
			out += "li x10, " + n + "; ecall;"
		}
		return out
	}
	forever := "a: ; j a"
	exit := "li x10, 9; li x17, 3; ecall"
	for i, x := range []struct {
		a, b  string
		steps int
		want  bool
	}{
		{tell("1 2") + exit, tell("1 2") + exit, 100, true}, {tell("1 2") + exit, tell("1 3") + exit, 100, false}, {tell("1 2") + exit, tell("1") + exit, 100, false},
		{exit, "li x10, 8; li x17, 3; ecall", 100, false}, {exit, "li x10, 9; li x17, 5; ecall", 100, false}, {"ret", "ecall", 100, true}, {"ret", "li x10, 1099511627776; li x17, 5; ecall", 100, true}, {"ret", "li x10, 5; li x17, 5; ecall", 100, false}, {"", "ret", 100, true},
		{tell("1 2") + exit, tell("1") + forever, 100, true}, {tell("1 2") + exit, tell("1 2") + forever, 100, true}, {tell("1 2") + exit, tell("2") + forever, 100, false}, {tell("1 2") + exit, tell("1 2 3") + forever, 100, false}, {exit, forever, 100, true}, {exit, tell("1") + forever, 100, false},
		{tell("1 2") + forever, tell("1 2 3") + forever, 100, true}, {tell("1 2") + forever, tell("2 1") + forever, 100, false}, {tell("1") + exit, tell("2") + exit, 0, true}, {tell("1") + exit, tell("2") + exit, 2, true}, {tell("1") + exit, tell("2") + exit, 3, false}, {tell("1") + exit, tell("1 2") + exit, 5, true},
	} {
		a, b := get(t, x.a), get(t, x.b)
		if round.Agree(a, b, nil, x.steps) != x.want || round.Agree(b, a, nil, x.steps) != x.want {
			t.Error(i, x.want)
		}
	}
	read := get(t, "li x17, 2; ecall; li x17, 1; ecall; "+exit)
	if !round.Agree(read, get(t, tell("4")+exit), []int{4}, 100) || round.Agree(read, get(t, tell("4")+exit), []int{5}, 100) {
		t.Error("read")
	}
	bad := api.Code{Lines: []api.Line{{}}}
	if !round.Agree(bad, read, nil, 100) || round.Agree(bad, bad, nil, 100) != true {
		t.Error("nothing is the beginning of all")
	}
}

// keeps checks R4 at some numbers of steps.
func keeps(t *testing.T, name string, c api.Code, level int, in []int, steps ...int) {
	t.Helper()
	again, err := round.Again(c, level)
	if err != api.OK {
		t.Error(name, level, err)
		return
	}
	p, _ := lift.Lift(c)
	s := 1 + tree.Size(p)
	for _, n := range steps {
		if a, b := lift.Seen(mach.Run(c, in, n)), mach.Run(again, in, 100000*n+200000); !samples.Keeps(a, b) {
			t.Error(name, level, n, a, b)
		}
		a, b := mach.Run(again, in, n), lift.Seen(mach.Run(c, in, (9*n+500)*s))
		if !samples.Keeps(a, b) || a.Status == api.StatFault {
			t.Error(name, level, n, "back", a, b)
		}
	}
}

func TestRandom(t *testing.T) { // R4
	for seed := range 150 {
		c := samples.Code(seed)
		if steps := mach.Run(c, nil, 60); steps.Status == api.StatGoing {
			continue
		}
		for level := range 3 {
			keeps(t, strconv.Itoa(seed), c, level, samples.New(seed).Input(), 0, 1, 2, 5, 20, 50, 300)
		}
	}
	for level := range 3 {
		keeps(t, "forever", get(t, "a: ; li x0, 1; li x17, 1; ecall; addi x10, x10, 1; j a"), level, nil, 0, 1, 2, 3, 10, 100)
		keeps(t, "ret", get(t, "ret"), level, nil, 0, 1, 2, 100)
		keeps(t, "depth", get(t, "li x17, 4; li x10, 4; ecall"), level, nil, 0, 1, 2, 3, 10, 1000)
	}
}

func TestSmallCode(t *testing.T) { // R5
	for seed := range 200 {
		r := samples.New(seed)
		c := api.Code{Arrays: []api.Array{{Name: "a0", Size: 500}, {Name: "a1", Size: 500}}}
		n := 0
		for n < 40 {
			if r.Below(5) == 0 && n < 30 {
				c.Lines = append(c.Lines, api.Line{Label: "l" + strconv.Itoa(n)})
				c.Lines = append(c.Lines, api.Line{In: api.Instr{Op: api.InBlt, A: r.Below(32), B: r.Below(32), Name: "l" + strconv.Itoa(n)}})
			} else {
				c.Lines = append(c.Lines, api.Line{In: everything(r, c.Arrays)})
			}
			n++
		}
		c.Lines = append(c.Lines, api.Line{Label: "l0.."})
		for level := range 3 {
			again, err := round.Again(c, level)
			if err != api.OK {
				t.Fatal(seed, level, err)
			}
			if _, err := lift.Lift(again); err != api.OK {
				t.Error(seed, level, err)
			}
		}
	}
}

// everything is an instruction of any register.
func everything(r *samples.Source, arrays []api.Array) api.Instr {
	in := r.Instr(arrays, 1)
	switch in.Op {
	case api.InBeq, api.InBne, api.InBlt, api.InBge, api.InJ, api.InJal:
		in.Name = "l0.."
	case api.InAdd, api.InSub, api.InMul, api.InDiv, api.InRem, api.InAnd, api.InOr, api.InXor, api.InSll, api.InSra, api.InSlt, api.InSltu:
		in.D, in.A, in.B = r.Below(32), r.Below(32), r.Below(32)
	}
	return in
}
