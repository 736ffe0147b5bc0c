package parse_test

import (
	"strings"
	"testing"

	"counterproof/api"
	"counterproof/parse"
	"counterproof/samples"
	"counterproof/scan"
	"counterproof/tree"
)

func TestExprTrees(t *testing.T) { // P1
	for text, want := range map[string]string{
		"1 + 2 * 3": "1 + 2 * 3", "(1 + 2) * 3": "(1 + 2) * 3", "((((x))))": "x", "1-2-3": "1 - 2 - 3", "1-(2-3)": "1 - (2 - 3)", "a|b^c&d==e<f<<g+h*-i": "a | b ^ c & d == e < f << g + h * -i",
		"a*b+c<<d<e==f&g^h|i": "a * b + c << d < e == f & g ^ h | i", "- - !~x": "--!~x", "f ( )": "f()", "f(1,f(2),a[3])": "f(1, f(2), a[3])", "'é'+read()": "233 + read()", "-x*y": "-x * y", "-(x*y)": "-(x * y)", "a[a[0]+1]": "a[a[0] + 1]",
		"1<2<3": "1 < 2 < 3", "1<(2<3)": "1 < (2 < 3)", "a==b!=c": "a == b != c", "a<=b>=c>d": "a <= b >= c > d", "x/y%z": "x / y % z",
	} {
		e, err, line := parse.Expr(text)
		got, _ := tree.PrintExpr(e)
		if got != want || err != api.OK || line != 0 {
			t.Error(text, got, err, line)
		}
	}
	e, _, _ := parse.Expr("1 - 2 - 3")
	if e.Op != api.OpSub || e.Args[0].Op != api.OpSub || e.Args[1].N != 3 {
		t.Error(e)
	}
	if e, _, _ := parse.Expr("1 + 2 * 3"); e.Op != api.OpAdd || e.Args[1].Op != api.OpMul {
		t.Error(e)
	}
}

func TestProgram(t *testing.T) { // P1
	text := "int a[2]; int b['a'];\nint f(int x, int y) { int z; z=x; if(z){}else{print(1);} while(1){break;continue;} return z; }\nint main(){ a[0]=b[1]; f(1,2); trap(read()); if (1) { } }"
	want := "int a[2];\nint b[97];\nint f(int x, int y) {\n\tint z;\n\tz = x;\n\tif (z) {\n\t} else {\n\t\tprint(1);\n\t}\n\twhile (1) {\n\t\tbreak;\n\t\tcontinue;\n\t}\n\treturn z;\n}\nint main() {\n\ta[0] = b[1];\n\tf(1, 2);\n\ttrap(read());\n\tif (1) {\n\t}\n}\n"
	p, err, line := parse.Parse(text)
	if got, _ := tree.Print(p); got != want || err != api.OK || line != 0 {
		t.Errorf("%q %d %d", got, err, line)
	}
	if p, err, line := parse.Parse(" // nothing"); !tree.Same(p, api.Prog{}) || err != api.OK || line != 0 {
		t.Error(p, err, line)
	}
}

// Each line's last token is the one that can't stand.
var wrong = []string{
	"x", "int 1", "int x\n;", "int x[\nx", "int x[1\n)", "int x[1]\n{", "int f() { }\nint a\n[2];", "int f(\n1", "int f(int a\n;", "int f(int a,\n)", "int f(int a)\n;", "int f() {\n1", "int f() { int\n(", "int f() { int a\n,",
	"int f() { x = 1;\nint", "int f() { x\n;", "int f() { x\n+ 1", "int f() { x =\n;", "int f() { x = 1\n}", "int f() { x[1]\n;", "int f() { x[1\n;", "int f() { f(1\n;", "int f() { f(\n, 1)", "int f() { f(1,\n)", "int f() { f()\n}", "int f() { f() \n+ 1;",
	"int f() { if\nx", "int f() { if (1)\nx = 1;", "int f() { if (1) { } else\nif", "int f() { else\n", "int f() { while (1)\n;", "int f() { while\n{", "int f() { break\n1;", "int f() { continue\n}", "int f() { return\n;", "int f() { print\n1;", "int f() { print(1)\n}", "int f() { trap(\n)", "int f() { read\n", "int f() {\n{ }", "int f() { ;", "int f() { }\n}",
	"int f() { x = 1 +\n;", "int f() { x = 1\n1;", "int f() { x = (1\n;", "int f() { x = read\n;", "int f() { x = read(\n1", "int f() { x = -\n)", "int f() { x = int\n", "int f() { x = 1 =\n", "int f() {", "int main() {\n", "int f() { print = 1;", "int if", "int", "int f() { x = a[1\n)",
}

func TestWrong(t *testing.T) { // P1, wrong inputs
	for _, text := range wrong {
		tokens, _, _ := scan.Scan(text)
		p, err, line := parse.Parse(text + " ")
		if !tree.Same(p, api.Prog{}) || err != api.ErrParse || line < 1 || line > tokens[len(tokens)-1].Line {
			t.Errorf("%q: %d %d", text, err, line)
		}
	}
	for text, want := range map[string]int{
		"int main() {": 1, "int main() {\n": 2, "int f() { }\nint a\n[2];\n\n": 3, "int f(int a,\n)": 2, "int f() { x = 1;\nint\nx;": 2, "int f() {\nif (1)\nx = 1;\n}": 3, "int f() { f() \n+ 1;": 2, "\n\n;": 3, "int x[\nx\n]": 2, "int f() { x = 1\n1\n;": 2, "int f() { }\n\n}\n": 3, "int f() { x = 1 +\n\n// end": 3,
		"int f() {\n;\n}": 2, "int f() {\nx\n;\n}": 3, "int f() {\n{\n}\n}": 2, "int f() {\nx\n}\n}": 3, "int f() { return\n;\n}": 2, "int f() {\nif (1)\n;\n}": 3, "int f() {\nelse\n{ } }": 2, "int f() { print(1)\n}": 2, "int f() { break\n}": 2,
	} {
		if _, err, line := parse.Parse(text); err != api.ErrParse || line != want {
			t.Errorf("%q: %d %d", text, err, line)
		}
	}
	for text, want := range map[string]int{"": 1, "1 1": 1, "1\n)": 2, "x =": 1, "(\n1\n": 3, "f(1": 1, "a[]": 1, "if": 1, "1 +\n*": 2, "read(1)": 1, ";": 1} {
		if e, err, line := parse.Expr(text); err != api.ErrParse || line != want || e.Kind != 0 {
			t.Errorf("%q: %d %d", text, err, line)
		}
	}
}

func TestLowestLevelEverywhere(t *testing.T) { // P1
	text := "int a[1];\nint f(int x) {\n\tx = x | 1;\n\ta[x | 2] = x | 3;\n\tif (x | 4) {\n\t}\n\twhile (x | 5) {\n\t}\n\tprint(x | 6);\n\ttrap(x | 7);\n\tf(x | 8);\n\tx = f(x | 9) + a[x | 10] * (x | 11);\n\treturn x | 12;\n}\n"
	p, err, line := parse.Parse(text)
	if got, _ := tree.Print(p); got != text || err != api.OK || line != 0 {
		t.Errorf("%q %d %d", got, err, line)
	}
}

func TestOrderOfErrors(t *testing.T) { // P1
	for _, x := range []struct {
		text string
		err  api.Errno
		line int
	}{
		{"int int\n$", api.ErrLex, 2}, {strings.Repeat(" ", 20001), api.ErrArg, 0}, {strings.Repeat("int ", 5001), api.ErrArg, 0},
		{"int a[0];", api.ErrLimit, 1}, {"\n\nint a[1048577];", api.ErrLimit, 1}, {"int a[1048576];", api.OK, 0}, {"int a[0];\n;", api.ErrParse, 2},
		{"int f(int a, int b, int c, int d, int e, int f, int g) { }", api.ErrLimit, 1}, {"int f(int a, int b, int c, int d, int e, int f) { }", api.OK, 0},
		{"int f() { f(1,2,3,4,5,6,7); }", api.ErrLimit, 1},
		{"int f() {" + strings.Repeat("if(1){", 40) + strings.Repeat("}", 41), api.OK, 0}, {"int f() {" + strings.Repeat("if(1){", 41) + strings.Repeat("}", 42), api.ErrLimit, 1},
		{"int f() { x = " + strings.Repeat("-", 39) + "1; }", api.OK, 0}, {"int f() { x = " + strings.Repeat("-", 40) + "1; }", api.ErrLimit, 1},
		{"int f() { x = " + strings.Repeat("(", 9000) + "1" + strings.Repeat(")", 9000) + "; }", api.OK, 0},
		{"int f() { x = " + strings.Repeat("-", 19000), api.ErrParse, 1}, {"int f() {" + strings.Repeat("while(1){", 2200), api.ErrParse, 1}, {"int f() { x = " + strings.Repeat("f(", 9000), api.ErrParse, 1},
	} {
		p, err, line := parse.Parse(x.text)
		if err != x.err || line != x.line || err != api.OK && !tree.Same(p, api.Prog{}) {
			t.Errorf("%.40q: %d %d", x.text, err, line)
		}
	}
	for _, x := range []struct {
		text string
		err  api.Errno
		line int
	}{{"1 +\n$", api.ErrLex, 2}, {strings.Repeat("1", 20001), api.ErrArg, 0}, {strings.Repeat("~", 40) + "1", api.ErrLimit, 1}, {strings.Repeat("~", 39) + "1", api.OK, 0}, {"1" + strings.Repeat("+1", 40), api.ErrLimit, 1}, {"1" + strings.Repeat("+1", 39), api.OK, 0}} {
		if _, err, line := parse.Expr(x.text); err != x.err || line != x.line {
			t.Errorf("%.40q: %d %d", x.text, err, line)
		}
	}
}

// spread puts each token of a text on a line of its own, with comments between.
func spread(text string) string {
	tokens, _, _ := scan.Scan(text)
	var out strings.Builder
	for _, x := range tokens {
		out.WriteString(x.Text + " // '\n")
	}
	return out.String()
}

func TestTheorem(t *testing.T) { // P2
	for seed := range 300 {
		p := samples.Prog(seed)
		text, _ := tree.Print(p)
		q, err, line := parse.Parse(text)
		if len(text) > api.MaxText {
			if err != api.ErrArg {
				t.Error(seed)
			}
			continue
		}
		if err != api.OK || line != 0 || !tree.Same(p, q) {
			t.Error(seed, err, line)
		}
		if wide := spread(text); len(wide) <= api.MaxText {
			if r, err, _ := parse.Parse(wide); err != api.OK || !tree.Same(p, r) {
				t.Error(seed, err)
			}
		}
	}
}

// TestFirstWrongToken spreads tokens over lines and puts a wrong one in: no line ahead of it is told, and what is told does not hang on what follows.
func TestFirstWrongToken(t *testing.T) { // P1
	others := []string{";", "}", "{", "(", ")", "int", "x", "1", "=", "+", "else", ",", "]", "while", "!"}
	for seed := range 120 {
		text, _ := tree.Print(samples.Prog(seed))
		tokens, _, _ := scan.Scan(text)
		if len(tokens) > 600 || len(tokens) < 3 {
			continue
		}
		r := samples.New(seed)
		at := r.Below(len(tokens) - 1)
		var ahead []string
		for _, x := range tokens[:at] {
			ahead = append(ahead, x.Text)
		}
		list := append(ahead, others[r.Below(len(others))])
		_, err, line := parse.Parse(strings.Join(list, "\n"))
		if err != api.OK && err != api.ErrParse && err != api.ErrLimit || err == api.ErrParse && line < at+1 {
			t.Error(seed, err, line)
		}
		for _, more := range others {
			_, err2, line2 := parse.Parse(strings.Join(list, "\n") + "\n" + more + "\n" + more)
			_, cutErr, cutLine := parse.Parse(strings.Join(list, "\n") + "\n")
			if cutErr == api.ErrParse && cutLine == at+1 && (err2 != api.ErrParse || line2 != at+1) {
				t.Error(seed, more, err2, line2)
			}
		}
	}
}

func FuzzParse(f *testing.F) {
	f.Add("int a[1]; int main() { if (a[0]) { print(1 - -2); } else { while (1) { break; } } }")
	f.Fuzz(func(t *testing.T, s string) {
		p, err, line := parse.Parse(s)
		if err == api.OK {
			text, e := tree.Print(p)
			if q, e2, _ := parse.Parse(text); e != api.OK || line != 0 || len(text) <= api.MaxText && (e2 != api.OK || !tree.Same(p, q)) {
				t.Error(text)
			}
		} else if !tree.Same(p, api.Prog{}) {
			t.Error(err)
		}
	})
}
