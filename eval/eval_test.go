package eval_test

import (
	"reflect"
	"slices"
	"strings"
	"testing"

	"counterproof/api"
	"counterproof/eval"
	"counterproof/parse"
	"counterproof/samples"
	"counterproof/tree"
)

func get(t *testing.T, text string) api.Prog {
	t.Helper()
	p, err, line := parse.Parse(text)
	if err != api.OK {
		t.Fatal(text, err, line)
	}
	return p
}

func run(status, code, steps int, out ...int) api.Run {
	return api.Run{Status: status, Code: code, Steps: steps, Out: out}
}

func same(a, b api.Run) bool {
	return a.Status == b.Status && a.Code == b.Code && a.Steps == b.Steps && slices.Equal(a.Out, b.Out)
}

func TestRun(t *testing.T) { // E1
	for i, c := range []struct {
		text string
		in   []int
		want api.Run
	}{
		{"int main() { }", nil, run(1, 0, 0)},
		{"int main() { return 7; }", nil, run(1, 7, 2)},
		{"int main() { print(1 / read()); return 7; }", []int{1}, run(1, 7, 6, 1)},
		{"int main() { print(1 / read()); return 7; }", []int{0, 5}, run(2, 0, 4)},
		{"int main() { print(1 % 0); }", nil, run(2, 0, 4)},
		{"int main() { print(read()); print(read()); print(read()); }", []int{4, -5}, run(1, 0, 6, 4, -5, -1)},
		{"int a[2]; int main() { print(a[1]); a[1] = 6; print(a[1]); print(a[0]); }", nil, run(1, 0, 12, 0, 6, 0)},
		{"int a[2]; int b[3]; int main() { a[0] = 1; a[1] = 2; b[0] = 3; b[2] = 4; print(a[0]); print(a[1]); print(b[0]); print(b[1]); print(b[2]); }", nil, run(1, 0, 27, 1, 2, 3, 0, 4)},
		{"int a[2]; int main() { print(8); print(a[2]); }", nil, run(3, 0, 5, 8)},
		{"int a[2]; int main() { print(a[-1]); }", nil, run(3, 0, 4)},
		{"int a[2]; int main() { a[2] = 1 / 0; }", nil, run(2, 0, 5)},
		{"int a[2]; int main() { a[2] = read(); }", nil, run(3, 0, 3)},
		{"int a[2]; int main() { a[0 - 1] = 3; }", nil, run(3, 0, 5)},
		{"int main() { trap(-9); }", nil, run(5, -9, 3)},
		{"int main() { trap(0); print(1); }", nil, run(5, 0, 2)},
		{"int f(int n) { return f(n); } int main() { f(1); }", nil, run(4, 0, 3+49*3)},
		{"int f(int n) { if (n) { return f(n - 1); } return 5; } int main() { return f(48); }", nil, run(1, 5, 3+48*7+4)},
		{"int f(int n) { if (n) { return f(n - 1); } return 5; } int main() { return f(49); }", nil, run(4, 0, 3+49*7)},
		{"int f(int n) { return f(1 / 0); } int main() { f(1); }", nil, run(2, 0, 3+5)},
		{"int main() { while (1) { break; } print(2); while (0) { } }", nil, run(1, 0, 7, 2)},
		{"int main() { int x; while (x < 3) { x = x + 1; if (x == 2) { continue; } print(x); } }", nil, run(1, 0, 1+4*3+3*4+3*4+1+2*2, 1, 3)},
		{"int main() { int x; int y; while (x < 2) { x = x + 1; y = 0; while (1) { y = y + 1; if (y == 2) { break; } } print(y); } return x; }", nil, run(1, 2, 68, 2, 2)},
		{"int f() { while (1) { while (1) { return 3; } } } int main() { return f() + f(); }", nil, run(1, 6, 16)},
		{"int f(int a, int b, int c) { int d; print(a); print(b); print(c); print(d); d = 7; } int main() { print(f(read(), read(), read())); f(1, 2, 3); }", []int{1, 2, 3}, run(1, 0, 30, 1, 2, 3, 0, 0, 1, 2, 3, 0)},
		{"int main() { if (3) { print(1); } else { print(2); } if (0) { print(3); } else { print(4); } if (0) { } }", nil, run(1, 0, 10, 1, 4)},
		{"int main() { print(-!~0); print(1 << 65); print(-8 >> 1); print(0 & 1 / 1 | 2); }", nil, run(1, 0, 22, 0, 2, -4, 2)},
		{"int f() { return 1; } int g() { return 2; } int main() { int i; while (i < 60) { i = i + f(); } return g() * 10 + i; }", nil, run(1, 80, 1+61*3+60*6+8)},
		{"int g(int n) { if (n == 0) { return 0; } g(n - 1); return g(n - 1) + 1; } int main() { return g(5); }", nil, run(1, 5, 3+32*6+31*16)},
		{"int main() { print(9223372036854775807 + 1); }", nil, run(1, 0, 4, -1<<63)},
		{"int a[1048576]; int b[1048576]; int main() { a[1048575] = 1; b[0] = 2; print(a[1048575]); print(b[0]); print(a[0]); }", nil, run(1, 0, 15, 1, 2, 0)},
	} {
		p := get(t, c.text)
		in := slices.Clone(c.in)
		got := eval.Run(p, c.in, 100000)
		if !same(got, c.want) || !slices.Equal(in, c.in) {
			t.Error(i, got, c.want)
		}
		for n := -1; n <= got.Steps+1; n++ {
			r := eval.Run(p, c.in, n)
			if max(n, 0) >= got.Steps && !same(r, got) {
				t.Error(i, n, r)
			}
			if max(n, 0) < got.Steps && (r.Status != api.StatGoing || r.Code != 0 || r.Steps != max(n, 0) || len(r.Out) > len(got.Out) || !slices.Equal(r.Out, got.Out[:len(r.Out)])) {
				t.Error(i, n, r)
			}
		}
	}
}

func TestRunOfWhatMayNotBe(t *testing.T) { // E1, wrong inputs
	for _, text := range []string{"", "int f() { }", "int main() { x = 1; }", "int main() { break; }", "int main(int a) { }", "int main() { main(1); }"} {
		if r := eval.Run(get(t, text), []int{1}, 100); !reflect.DeepEqual(r, api.Run{}) {
			t.Error(text, r)
		}
	}
	if r := eval.Run(api.Prog{Funcs: []api.Func{{Name: "main", Body: []api.Stmt{{}}}}}, nil, 100); !reflect.DeepEqual(r, api.Run{}) {
		t.Error(r)
	}
}

func TestGoing(t *testing.T) { // E1
	p := get(t, "int main() { while (1) { print(1); } }")
	for _, n := range []int{-1 << 63, -1, 0, 1, 5, 1000} {
		r := eval.Run(p, nil, n)
		if r.Status != api.StatGoing || r.Steps != max(n, 0) || len(r.Out) != (max(n, 1)-1)/3 {
			t.Error(n, r.Status, r.Steps, len(r.Out))
		}
	}
}

func TestValue(t *testing.T) { // E2
	for text, want := range map[string]int{"1 + 2 * 3": 7, "-7 / 2": -3, "!0 << 63 >> 63": -1, "~5": -6, "0 / 1": 0, "'a'": 97} {
		e, _, _ := parse.Expr(text)
		if v, ok := eval.Value(e); v != want || !ok {
			t.Error(text, v, ok)
		}
	}
	for _, text := range []string{"x", "a[0]", "f()", "f(1)", "read()", "1 / 0", "1 % (2 - 2)", "0 * (1 / 0)", "1 + x", "-read()", "3 - a[1]"} {
		e, _, _ := parse.Expr(text)
		if v, ok := eval.Value(e); v != 0 || ok {
			t.Error(text, v, ok)
		}
	}
	deep, _, _ := parse.Expr(strings.Repeat("-", 39) + "1")
	if v, ok := eval.Value(deep); v != -1 || !ok {
		t.Error(v, ok)
	}
	for _, e := range []api.Expr{{}, {Kind: api.ExprNum, N: -1}, {Kind: api.ExprOne, Op: api.OpNeg, Args: []api.Expr{deep}}, {Kind: api.ExprTwo, Op: api.OpNeg, Args: []api.Expr{deep, deep}}, {Kind: api.ExprTwo, Op: api.OpAdd}} {
		if v, ok := eval.Value(e); v != 0 || ok {
			t.Error(e, v, ok)
		}
	}
}

func TestTheorem(t *testing.T) { // E3
	for seed := range 300 {
		p := samples.Prog(seed)
		in := samples.New(seed).Input()
		r := eval.Run(p, in, 3000)
		for _, n := range []int{0, 1, 7, 100, 2999, 3001, 9000} {
			q := eval.Run(p, in, n)
			if r.Status != api.StatGoing && n >= r.Steps && !same(q, r) {
				t.Error(seed, n)
			}
			short, long := q.Out, r.Out
			if len(short) > len(long) {
				short, long = long, short
			}
			if !slices.Equal(short, long[:len(short)]) {
				t.Error(seed, n)
			}
		}
		if reads := strings.Contains(text(p), "read()"); !reads {
			if q := eval.Run(p, append(in, 1, 2), 3000); !same(q, r) {
				t.Error(seed)
			}
		}
	}
	p := get(t, "int main() { print(read()); print(read()); }")
	if !same(eval.Run(p, []int{3, 4}, 50), eval.Run(p, []int{3, 4, 5, 6}, 50)) {
		t.Error("reads")
	}
}

func text(p api.Prog) string {
	s, _ := tree.Print(p)
	return s
}
