package compile_test

import (
	"strings"
	"testing"

	"counterproof/api"
	"counterproof/asm"
	"counterproof/compile"
	"counterproof/dead"
	"counterproof/emit"
	"counterproof/eval"
	"counterproof/fold"
	"counterproof/lower"
	"counterproof/mach"
	"counterproof/parse"
	"counterproof/samples"
	"counterproof/tree"
)

func get(t *testing.T, text string) api.Prog {
	t.Helper()
	p, err, line := parse.Parse(text)
	if err != api.OK {
		t.Fatal(text, err, line)
	}
	return p
}

// mark prints numbers of statements in place of statements, in the order of chapter 5, to look them up in the text.
func mark(list []api.Stmt, n *int) []api.Stmt {
	var out []api.Stmt
	for _, s := range list {
		own := *n
		*n++
		s.Then, s.Else = mark(s.Then, n), mark(s.Else, n)
		switch s.Kind {
		case api.StmtIf, api.StmtWhile:
			s.Args = []api.Expr{samples.Num(7000000 + own)}
		default:
			s = api.Stmt{Kind: api.StmtPrint, Args: []api.Expr{samples.Num(7000000 + own)}}
		}
		out = append(out, s)
	}
	return out
}

func TestLine(t *testing.T) { // K1
	for seed := range 60 {
		p := samples.Prog(seed)
		for i := range p.Funcs {
			q := p
			q.Funcs = append([]api.Func{}, p.Funcs...)
			n := 0
			q.Funcs[i].Body = mark(p.Funcs[i].Body, &n)
			text, _ := tree.Print(q)
			lines := strings.Split(text, "\n")
			for k := range n {
				at := compile.Line(q, i, k)
				if !strings.Contains(lines[at-1], samplesText(7000000+k)) || compile.Line(p, i, k) < 1 {
					t.Error(seed, i, k, at)
				}
			}
			for _, k := range []int{-1, n, n + 7, 1 << 62, -1 << 63} {
				if at := compile.Line(p, i, k); k >= 0 && !strings.HasPrefix(lines[compile.Line(q, i, k)-1], "int "+p.Funcs[i].Name+"(") || k < 0 && !strings.HasPrefix(lines[compile.Line(q, i, k)-1], "int "+p.Funcs[i].Name+"(") || at < 1 {
					t.Error(seed, i, k, at)
				}
			}
		}
		for _, f := range []int{-1, len(p.Funcs), 1 << 62} {
			if compile.Line(p, f, 0) != 1 {
				t.Error(seed, f)
			}
		}
	}
	p := get(t, "int a[1]; int f() { int x; } int g(int y) { int x; int z; x = 1; if (y) { x = 2; } else { while (y) { x = 3; } } return x; }")
	want := []int{8, 9, 10, 12, 13, 16}
	for k, w := range want {
		if compile.Line(p, 1, k) != w {
			t.Error(k, compile.Line(p, 1, k))
		}
	}
	if compile.Line(p, 0, 0) != 2 || compile.Line(p, 1, 6) != 5 || compile.Line(p, 2, 0) != 1 || compile.Line(api.Prog{}, 0, 0) != 1 {
		t.Error("heads")
	}
	p.Funcs[0].Name = "int"
	if compile.Line(p, 1, 3) != 1 {
		t.Error("not right")
	}
}

func samplesText(n int) string {
	s, _ := tree.PrintExpr(samples.Num(n))
	return s
}

func TestErrors(t *testing.T) { // K2, K3
	for _, x := range []struct {
		text string
		err  api.Errno
		line int
	}{
		{"int main() { }", api.OK, 0}, {"int main() {", api.ErrParse, 1}, {"int main() {\n$", api.ErrLex, 2}, {strings.Repeat(" ", 20001), api.ErrArg, 0}, {"\nint a[0];", api.ErrLimit, 1},
		{"int main() { x = 1; }", api.ErrUnknown, 2}, {"int a[1]; int a[2]; int main() { }", api.ErrTwice, 3}, {"int a[1];\n\n\nint b() { } int f() { }", api.ErrMain, 2}, {"int main() { print(1); }", api.OK, 0}, {"", api.ErrMain, 1}, {"int a[1];", api.ErrMain, 1},
		{"int f() { } int main() { int x; if (1) { x = 1; } else { break; } }", api.ErrLoop, 8}, {"int main() { } int f() { int x; int f; }", api.ErrTwice, 3}, {"int main() { } int f(int x) { x = f(1); x = f(); }", api.ErrArity, 5}, {"int f(int x, int x) { } int main() { print(x); }", api.ErrTwice, 1},
	} {
		for level := range 3 {
			c, err, line := compile.Compile(x.text, level)
			if err != x.err || line != x.line || err != api.OK && !asm.Same(c, api.Code{}) {
				t.Error(x.text, err, line)
			}
			if p, err, _ := parse.Parse(x.text); err == api.OK {
				d, err, line := compile.Tree(p, level)
				if err != x.err || line != x.line || !asm.Same(c, d) {
					t.Error(x.text, err, line)
				}
			}
		}
		for _, level := range []int{-1, 3, 1 << 62} {
			c, err, line := compile.Compile(x.text, level)
			d, err2, line2 := compile.Tree(api.Prog{}, level)
			if err != api.ErrArg || line != 1 || err2 != api.ErrArg || line2 != 1 || !asm.Same(c, api.Code{}) || !asm.Same(d, api.Code{}) {
				t.Error(level, err, line)
			}
		}
	}
	if c, err, line := compile.Tree(api.Prog{Funcs: []api.Func{{Name: "9"}}}, 1); err != api.ErrArg || line != 1 || !asm.Same(c, api.Code{}) {
		t.Error(err, line)
	}
	wide := "int main() {"
	for i := range 90 {
		wide += " int " + name(i) + ";"
	}
	for i := range 90 {
		wide += " " + name(i) + " = read();"
	}
	for i := range 90 {
		wide += " print(" + name(i) + ");"
	}
	for level := range 3 {
		if c, err, line := compile.Compile("\n"+wide+"}", level); err != api.ErrLimit || line != 1 || !asm.Same(c, api.Code{}) {
			t.Error(err, line)
		}
	}
	p := get(t, "int main() { }")
	for range 30000 {
		p.Funcs[0].Body = append(p.Funcs[0].Body, api.Stmt{Kind: api.StmtIf, Args: []api.Expr{samples.Num(1)}})
	}
	if _, err, line := compile.Tree(p, 0); err != api.ErrLimit || line != 1 {
		t.Error(err, line)
	}
}

func name(i int) string { return "v" + string(rune('a'+i/10)) + string(rune('a'+i%10)) }

func TestLevels(t *testing.T) { // K2
	for seed := range 80 {
		p := samples.Prog(seed)
		u, _ := lower.Lower(p)
		for level := range 3 {
			n := 18
			if level == 0 {
				n = 0
			}
			if level == 2 {
				for range 2 {
					u, _ = fold.Fold(u)
					u, _ = dead.Dead(u)
				}
			}
			want, err := emit.Emit(u, n)
			c, err2, _ := compile.Tree(p, level)
			if err != err2 || !asm.Same(c, want) {
				t.Error(seed, level, err, err2)
			}
		}
	}
}

// agree checks K4 at some numbers of steps.
func agree(t *testing.T, name string, p api.Prog, in []int, steps ...int) {
	t.Helper()
	for level := range 3 {
		c, err, _ := compile.Tree(p, level)
		if err != api.OK {
			t.Error(name, level, err)
			continue
		}
		s := 1 + tree.Size(p)
		for _, n := range steps {
			if a, b := eval.Run(p, in, n), mach.Run(c, in, 400*n+1200); !samples.Keeps(a, b) {
				t.Error(name, level, n, a, b)
			}
			a, b := mach.Run(c, in, n), eval.Run(p, in, (9*n+300)*s)
			if !samples.Keeps(a, b) || a.Status == api.StatFault {
				t.Error(name, level, n, "back", a, b)
			}
		}
	}
}

func TestRandom(t *testing.T) { // K4, K5
	for seed := range 300 {
		p := samples.Prog(seed)
		in := samples.New(seed).Input()
		agree(t, "seed", p, in, 0, 1, 3, 10, 50, 400)
		text, _ := tree.Print(p)
		if len(text) > 15000 {
			continue
		}
		for level := range 3 {
			a, err, line := compile.Compile(text, level)
			b, _, _ := compile.Tree(p, level)
			c, err2, _ := compile.Compile("// note\n\t"+strings.ReplaceAll(text, "\n", " // x\n\n")+" ", level)
			if err != api.OK || line != 0 || !asm.Same(a, b) || err2 == api.OK && !asm.Same(a, c) {
				t.Error(seed, level, err, line, err2)
			}
			if len(a.Lines) > 200*len(text)+100 {
				t.Error(seed, level, len(a.Lines), len(text))
			}
		}
	}
}

func TestTight(t *testing.T) { // K4
	for _, text := range []string{
		"int main() { print(6 * 7); }", "int main() { while (1) { } }", "int main() { int x; while (1) { x = 1; x = 2 + 3 * 4; x = x; print(x); } }", "int main() { return 1 / read(); }", "int a[2]; int main() { a[2] = 1; }", "int f(int n) { return f(n); } int main() { f(1); }", "int main() { trap(7); }",
		"int f() { } int main() { int i; while (i < 60) { f(); f(); i = i + 1; } print(i); }", "int main() { int i; int s; while (i < 100) { i = i + 1; if (i % 3 == 0) { continue; } s = s + i; } return s; }",
		"int a[9]; int main() { int i; while (1) { a[i] = i * i; print(a[i]); i = i + 1; } }", "int main() { if (0) { print(1); } else { if (1) { print(2); } } while (0) { } print(1 << 70); print(5 % (2 - 2)); }",
	} {
		var steps []int
		for n := range 100 {
			steps = append(steps, n)
		}
		agree(t, text, get(t, text), []int{0, 5}, append(steps, 1000)...)
	}
}

func TestSize(t *testing.T) { // K6
	for _, text := range []string{"int main(){}", "int main(){return 1;}", "int a[9];int main(){a[a[a[a[a[1]]]]]=a[2]+a[3];}", "int f(int a,int b,int c,int d,int e,int g){f(a,b,c,d,e,g);}int main(){f(1,2,3,4,5,6);}"} {
		for level := range 3 {
			if c, err, _ := compile.Compile(text, level); err != api.OK || len(c.Lines) > 200*len(text)+100 {
				t.Error(text, err, len(c.Lines))
			}
		}
	}
	small := "int main(){}"
	for i := range 700 {
		small += "int f" + name(i/90) + name(i%90) + "(){return 1;}"
	}
	for level := range 3 {
		if c, err, _ := compile.Compile(small, level); len(small) > api.MaxText || err != api.OK || len(c.Lines) > 200*len(small)+100 {
			t.Error(err, len(c.Lines), len(small))
		}
	}
}
