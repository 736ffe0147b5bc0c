package lower_test

import (
	"reflect"
	"strings"
	"testing"

	"counterproof/api"
	"counterproof/eval"
	"counterproof/ir"
	"counterproof/irrun"
	"counterproof/lower"
	"counterproof/parse"
	"counterproof/samples"
)

func get(t *testing.T, text string) api.Prog {
	t.Helper()
	p, err, line := parse.Parse(text)
	if err != api.OK {
		t.Fatal(text, err, line)
	}
	return p
}

// form checks what L1 says of a program's unit.
func form(t *testing.T, name string, p api.Prog, u api.Unit) {
	t.Helper()
	if err, at := ir.Check(u); err != api.OK {
		t.Error(name, err, at)
	}
	if len(u.Arrays) != len(p.Arrays) || len(u.Flows) != len(p.Funcs) {
		t.Fatal(name, "parts")
	}
	for i, a := range p.Arrays {
		if u.Arrays[i] != a {
			t.Error(name, a)
		}
	}
	for i, f := range p.Funcs {
		if u.Flows[i].Name != f.Name || u.Flows[i].Params != len(f.Params) {
			t.Error(name, f.Name)
		}
		for _, b := range u.Flows[i].Blocks {
			for _, to := range ir.Next(b.Term) {
				if to == 0 {
					t.Error(name, "leads to 0")
				}
			}
		}
	}
}

// agree checks L2 at some numbers of steps.
func agree(t *testing.T, name string, p api.Prog, u api.Unit, in []int, steps ...int) {
	t.Helper()
	for _, n := range steps {
		if a, b := eval.Run(p, in, n), irrun.Run(u, in, 4*n+10); !samples.Keeps(a, b) {
			t.Error(name, n, a, b)
		}
		if a, b := irrun.Run(u, in, n), eval.Run(p, in, 9*n+20); !samples.Keeps(a, b) {
			t.Error(name, n, "back", a, b)
		}
	}
}

var few = []int{-1, 0, 1, 2, 3, 5, 8, 13, 40, 100, 700, 3000}

func TestRandom(t *testing.T) { // L1, L2, L3
	for seed := range 500 {
		p := samples.Prog(seed)
		u, err := lower.Lower(p)
		if err != api.OK {
			t.Fatal(seed, err)
		}
		form(t, "seed", p, u)
		agree(t, "seed", p, u, samples.New(seed).Input(), few...)
		if again, _ := lower.Lower(samples.Prog(seed)); !reflect.DeepEqual(u, again) {
			t.Error(seed)
		}
	}
}

func TestTight(t *testing.T) { // L2, where the one takes many steps, and the other one few
	for _, text := range []string{
		"int main() { }", "int main() { return 7; }", "int main() { trap(-1); }",
		"int f(int a, int b, int c, int d, int e, int g) { print(a); } int main() { int x; while (x < 50) { f(x, x, x, x, x, x); x = x + 1; } }",
		"int f() { } int main() { int x; while (1) { f(); f(); print(x); } }",
		"int f(int a, int b, int c, int d, int e, int g) { return f(a, b, c, d, e, g); } int main() { int x; f(x, x, x, x, x, x); }",
		"int main() { int x; x = 1; while (x) { while (x) { while (x) { break; } break; } print(x); } }",
		"int main() { while (1) { while (0) { } if (0) { } else { } if (1) { } print(1); continue; print(2); } }",
		"int main() { int x; int y; while (1) { x = y; y = x; x = y; y = x; x = x; print(x); } }",
		"int main() { print(1 / 0); }", "int a[3]; int main() { a[1] = 5; print(a[1]); a[a[1]] = 1 % 0; }", "int a[3]; int main() { a[3] = read(); }", "int a[3]; int main() { print(a[0 - 1]); }",
		"int main() { int x; x = read(); while (x != -1) { print(x * x); x = read(); } return x; }",
		"int main() { if (1) { return 1; } else { return 2; } print(3); }", "int main() { while (1) { if (1) { break; } else { continue; } print(3); } print(4); }",
		"int f(int n) { if (n) { return f(n - 1); } return 5; } int main() { print(f(48)); print(f(49)); }",
		"int main() { int x; if (x) { } else { x = 2; } if (x) { x = 3; } else { } print(x); }",
	} {
		p := get(t, text)
		u, err := lower.Lower(p)
		if err != api.OK {
			t.Fatal(text, err)
		}
		form(t, text, p, u)
		var steps []int
		for n := range 120 {
			steps = append(steps, n)
		}
		agree(t, text, p, u, []int{4, -5, 6}, steps...)
	}
}

func TestExample(t *testing.T) {
	u, _ := lower.Lower(get(t, "int main() { print(1 + 2); }"))
	s, _ := ir.Print(u)
	want := []string{"= 1", "= 2", " + ", "print v", "= 0", "return v"}
	lines := strings.Split(strings.TrimSpace(s), "\n")[2:]
	if len(lines) != len(want) {
		t.Fatal(s)
	}
	for i, w := range want {
		if !strings.Contains(lines[i], w) {
			t.Error(lines[i], w)
		}
	}
}

func TestErrors(t *testing.T) { // L1, wrong inputs
	for _, text := range []string{"", "int f() { }", "int main() { x = 1; }", "int main() { break; }"} {
		if u, err := lower.Lower(get(t, text)); err != api.ErrArg || !reflect.DeepEqual(u, api.Unit{}) {
			t.Error(text, err)
		}
	}
	if _, err := lower.Lower(api.Prog{Funcs: []api.Func{{Name: "main", Body: []api.Stmt{{}}}}}); err != api.ErrArg {
		t.Error(err)
	}
	many := func(n int) api.Prog {
		p := get(t, "int main() { int x; }")
		for range n {
			p.Funcs[0].Body = append(p.Funcs[0].Body, api.Stmt{Kind: api.StmtIf, Args: []api.Expr{samples.Num(1)}})
		}
		return p
	}
	big := many(30000)
	u, err := lower.Lower(big)
	if err == api.OK {
		form(t, "big", big, u)
	} else if err != api.ErrLimit || !reflect.DeepEqual(u, api.Unit{}) {
		t.Error(err)
	}
	if _, err := lower.Lower(many(499)); err != api.OK {
		t.Error(err)
	}
}

func TestNewMemory(t *testing.T) { // R3
	p := samples.Prog(3)
	u, _ := lower.Lower(p)
	v, _ := lower.Lower(p)
	for i := range u.Arrays {
		u.Arrays[i].Size = 77
	}
	for i := range u.Flows {
		for k := range u.Flows[i].Blocks {
			u.Flows[i].Blocks[k].Term = api.Term{}
			for n := range u.Flows[i].Blocks[k].Ins {
				clear(u.Flows[i].Blocks[k].Ins[n].Args)
			}
		}
	}
	if w, _ := lower.Lower(p); !reflect.DeepEqual(v, w) {
		t.Error("shared")
	}
}
