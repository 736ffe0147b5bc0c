package lines_test

import (
	"strings"
	"testing"

	"counterproof/api"
	"counterproof/asm"
	"counterproof/check"
	"counterproof/compile"
	"counterproof/eval"
	"counterproof/instr"
	"counterproof/irrun"
	"counterproof/lift"
	"counterproof/lines"
	"counterproof/lower"
	"counterproof/mach"
	"counterproof/parse"
	"counterproof/round"
	"counterproof/samples"
	"counterproof/scan"
	"counterproof/tree"
)

// ways are the runs of a text, by all ways: evaluated, as a unit, compiled at each level, lifted, and compiled again.
func ways(t *testing.T, text string, in []int) map[string]api.Run {
	t.Helper()
	p, err, line := parse.Parse(text)
	if err != api.OK {
		t.Fatal(text, err, line)
	}
	const steps = 3000000
	out := map[string]api.Run{"eval": eval.Run(p, in, steps)}
	if u, err := lower.Lower(p); err == api.OK {
		out["unit"] = irrun.Run(u, in, steps)
	}
	for level, name := range []string{"0", "1", "2"} {
		c, err, _ := compile.Compile(text, level)
		q, err2 := lift.Lift(c)
		d, err3 := round.Again(c, level)
		if err != api.OK || err2 != api.OK || err3 != api.OK {
			t.Fatal(text, level, err, err2, err3)
		}
		if _, err := lift.Lift(d); err != api.OK { // P4
			t.Error(text, level, err)
		}
		out["code "+name], out["lifted "+name], out["again "+name] = mach.Run(c, in, steps), eval.Run(q, in, steps), mach.Run(d, in, steps)
	}
	return out
}

func TestTenExamples(t *testing.T) { // P1, P2, P3, P4
	for _, x := range []struct {
		text         string
		in           []int
		status, code int
		out          []int
	}{
		{"int main() { print(6 * 7); }", nil, api.StatDone, 0, []int{42}},
		{"int main() { return 1 / read(); }", []int{0}, api.StatDiv, 0, nil},
		{"int main() { return 1 / read(); }", []int{-1}, api.StatDone, -1, nil},
		{"int a[2]; int main() { a[2] = 1; }", nil, api.StatBounds, 0, nil},
		{"int f(int n) { return f(n); } int main() { f(1); }", nil, api.StatDepth, 0, nil},
		{"int main() { trap(7); }", nil, api.StatTrap, 7, nil},
		{"int a[30]; int main() { int i; int j; i = 2; while (i < 30) { if (a[i] == 0) { print(i); j = i * i; while (j < 30) { a[j] = 1; j = j + i; } } i = i + 1; } return i; }", nil, api.StatDone, 30, []int{2, 3, 5, 7, 11, 13, 17, 19, 23, 29}},
	} {
		for way, r := range ways(t, x.text, x.in) {
			if !samples.Keeps(api.Run{Status: x.status, Code: x.code, Out: x.out}, r) {
				t.Error(x.text, way, r)
			}
		}
	}
	for _, text := range []string{"ret", "ld x0, 0(x0)"} {
		c, _, _ := asm.Parse(text)
		p, _ := lift.Lift(c)
		if mach.Run(c, nil, 10).Status != api.StatFault {
			t.Error(text)
		}
		if r := eval.Run(p, nil, 1000); r.Status != api.StatTrap || r.Code != 1<<40 {
			t.Error(text, r)
		}
	}
	p, _, _ := parse.Parse("int main() { x = 1; }")
	if err, at := check.Check(p); err != api.ErrUnknown || compile.Line(p, at[0], at[1]) != 2 {
		t.Error(err, at)
	}
	if _, err, line := parse.Parse("int main() {"); err != api.ErrParse || line != 1 {
		t.Error(err, line)
	}
}

// bytes are some, of those that texts have and of others.
func bytes(r *samples.Source) string {
	words := strings.Fields("int if else while break continue return print read trap main x ( ) { } [ ] , ; = | ^ & + - * / % ! ~ < > == << 0 1 07 9223372036854775808 'a' 'é' // add li x5, x31, ld 8(x2) .array a: j a # ecall ret compile lift again run 100 eval level 2 code assemble")
	var out strings.Builder
	for range r.Below(60) {
		switch r.Below(12) {
		case 0:
			out.WriteByte(byte(r.Below(256)))
		case 1:
			out.WriteString("\n")
		case 2:
			out.WriteString("\n+")
		default:
			out.WriteString(words[r.Below(len(words))] + " ")
		}
	}
	return out.String()
}

func TestAnyBytes(t *testing.T) { // P5, R1
	for seed := range 3000 {
		s := bytes(samples.New(seed))
		most := 1 + strings.Count(s, "\n")
		told := func(err api.Errno, line int) {
			if (err == api.OK) != (line == 0) || line < 0 || line > most {
				t.Errorf("%q: %d %d", s, err, line)
			}
		}
		tokens, err, line := scan.Scan(s)
		told(err, line)
		if err != api.OK && len(tokens) > 0 {
			t.Error(seed)
		}
		p, err, line := parse.Parse(s)
		told(err, line)
		if err != api.OK && !tree.Same(p, api.Prog{}) {
			t.Error(seed)
		}
		_, err, line = parse.Expr(s)
		told(err, line)
		c, err, line := asm.Parse(s)
		told(err, line)
		if err != api.OK && !asm.Same(c, api.Code{}) {
			t.Error(seed)
		}
		if in, err := instr.Parse(s); err != api.OK && in != (api.Instr{}) {
			t.Error(seed)
		}
		for level := range 3 {
			if d, err, _ := compile.Compile(s, level); err != api.OK && !asm.Same(d, api.Code{}) {
				t.Error(seed)
			}
		}
		one, err := lines.Run(s)
		if two, err2 := lines.Run(s); one != two || err != err2 {
			t.Error(seed)
		}
	}
}
