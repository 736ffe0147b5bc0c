package tree_test

import (
	"reflect"
	"strings"
	"testing"

	"counterproof/api"
	"counterproof/samples"
	"counterproof/scan"
	"counterproof/tree"
)

type e = api.Expr
type s = api.Stmt

func num(n int) e                 { return e{Kind: api.ExprNum, N: n} }
func vari(name string) e          { return e{Kind: api.ExprVar, Name: name} }
func one(op int, a e) e           { return e{Kind: api.ExprOne, Op: op, Args: []e{a}} }
func two(op int, a, b e) e        { return e{Kind: api.ExprTwo, Op: op, Args: []e{a, b}} }
func call(name string, a ...e) e  { return e{Kind: api.ExprCall, Name: name, Args: a} }
func at(name string, a e) e       { return e{Kind: api.ExprIndex, Name: name, Args: []e{a}} }
func read() e                     { return e{Kind: api.ExprRead} }
func st(kind int, a ...e) s       { return s{Kind: kind, Args: a} }
func prog(list ...s) api.Prog     { return api.Prog{Funcs: []api.Func{{Name: "main", Body: list}}} }
func many(n int, x string) string { return strings.Repeat(x, n) }

func TestRightExpr(t *testing.T) { // T1
	n := num(1)
	for i, x := range []e{num(0), num(1<<63 - 1), vari("a"), one(api.OpNeg, n), one(api.OpNot, n), one(api.OpInv, n), two(api.OpAdd, n, n), two(api.OpNe, n, n), call("f"), call("f", n, n, n, n, n, n), at("a", n), read(), {Kind: api.ExprRead, Args: []e{}}} {
		if !tree.RightExpr(x) {
			t.Error(i)
		}
		for k, bad := range []func(*e){
			func(x *e) { x.Kind = 0 }, func(x *e) { x.Kind = 8 }, func(x *e) { x.Kind = -1 },
			func(x *e) { x.Op = 20 }, func(x *e) { x.Op = -1 },
			func(x *e) { x.N = -1 },
			func(x *e) { x.Name = "9" }, func(x *e) { x.Name = "if" }, func(x *e) { x.Name = many(21, "a") },
			func(x *e) { x.Args = []e{n, n, n, n, n, n, n} }, func(x *e) { x.Args = []e{{}} },
		} {
			y := x
			bad(&y)
			if tree.RightExpr(y) || tree.RightExpr(one(api.OpNeg, y)) {
				t.Error(i, k)
			}
		}
	}
	for i, x := range []e{
		{}, {Kind: api.ExprNum, N: 1, Op: 1}, {Kind: api.ExprNum, Name: "a"}, {Kind: api.ExprNum, Args: []e{n}},
		{Kind: api.ExprVar}, {Kind: api.ExprVar, Name: "a", N: 1}, {Kind: api.ExprVar, Name: "a", Op: 1}, {Kind: api.ExprVar, Name: "a", Args: []e{n}},
		{Kind: api.ExprOne, Op: api.OpNeg}, {Kind: api.ExprOne, Op: api.OpSub, Args: []e{n}}, {Kind: api.ExprOne, Op: api.OpNeg, Args: []e{n, n}}, {Kind: api.ExprOne, Op: api.OpNeg, N: 2, Args: []e{n}}, {Kind: api.ExprOne, Op: api.OpNeg, Name: "a", Args: []e{n}},
		two(api.OpNeg, n, n), two(0, n, n), {Kind: api.ExprTwo, Op: api.OpAdd, Args: []e{n}}, {Kind: api.ExprTwo, Op: api.OpAdd, N: 1, Args: []e{n, n}}, {Kind: api.ExprTwo, Op: api.OpAdd, Name: "b", Args: []e{n, n}},
		{Kind: api.ExprCall, Name: "f", N: 1}, {Kind: api.ExprCall, Name: "f", Op: 1}, call(""), call("f", n, n, n, n, n, n, n),
		{Kind: api.ExprIndex, Name: "a"}, {Kind: api.ExprIndex, Name: "a", Args: []e{n, n}}, {Kind: api.ExprIndex, Name: "a", Args: []e{n}, Op: 1}, {Kind: api.ExprIndex, Name: "a", Args: []e{n}, N: 1},
		{Kind: api.ExprRead, N: 1}, {Kind: api.ExprRead, Op: 1}, {Kind: api.ExprRead, Name: "a"}, {Kind: api.ExprRead, Args: []e{n}},
	} {
		if tree.RightExpr(x) {
			t.Error(i)
		}
		if s, err := tree.PrintExpr(x); s != "" || err != api.ErrArg {
			t.Error(i, s, err)
		}
	}
	x := num(1)
	for range 39 {
		x = two(api.OpAdd, n, x)
	}
	if !tree.RightExpr(x) || tree.RightExpr(one(api.OpNeg, x)) {
		t.Error("deep")
	}
}

func TestRight(t *testing.T) { // T2
	n := num(1)
	good := []s{
		{Kind: api.StmtSet, Name: "x", Args: []e{n}}, {Kind: api.StmtStore, Name: "x", Args: []e{n, n}}, st(api.StmtIf, n), {Kind: api.StmtIf, Args: []e{n}, Then: []s{st(api.StmtBreak)}, Else: []s{st(api.StmtContinue)}},
		st(api.StmtWhile, n), {Kind: api.StmtWhile, Args: []e{n}, Then: []s{st(api.StmtBreak)}}, st(api.StmtBreak), st(api.StmtContinue), st(api.StmtReturn, n), st(api.StmtPrint, n), st(api.StmtTrap, n), st(api.StmtCall, call("f")),
	}
	for i, x := range good {
		if !tree.Right(prog(x)) || !tree.Right(prog(good[0], x)) {
			t.Error(i)
		}
		for k, bad := range []func(*s){
			func(x *s) { x.Kind = 0 }, func(x *s) { x.Kind = 11 }, func(x *s) { x.Kind = -3 },
			func(x *s) { x.Name = "int" }, func(x *s) { x.Name = "x y" },
			func(x *s) { x.Args = []e{n, n, n} }, func(x *s) { x.Args = []e{{}} }, func(x *s) { x.Args = []e{n, {}} },
			func(x *s) { x.Then = []s{{}} }, func(x *s) { x.Else = []s{{}} },
		} {
			y := x
			bad(&y)
			if tree.Right(prog(y)) || tree.Right(prog(good[0], y)) || tree.Right(prog(s{Kind: api.StmtIf, Args: []e{n}, Else: []s{y}})) {
				t.Error(i, k)
			}
			if s, err := tree.Print(prog(y)); s != "" || err != api.ErrArg {
				t.Error(i, k)
			}
		}
		if x.Kind != api.StmtIf {
			x.Else = []s{st(api.StmtBreak)}
			if tree.Right(prog(x)) {
				t.Error(i, "else")
			}
		}
		if x.Else = nil; x.Kind != api.StmtIf && x.Kind != api.StmtWhile {
			x.Then = []s{st(api.StmtBreak)}
			if tree.Right(prog(x)) {
				t.Error(i, "then")
			}
		}
	}
	for i, x := range []s{st(api.StmtCall, n), st(api.StmtCall, vari("f")), {Kind: api.StmtSet, Args: []e{n}}, {Kind: api.StmtPrint, Name: "x", Args: []e{n}}, {Kind: api.StmtBreak, Name: "x"}, st(api.StmtBreak, n)} {
		if tree.Right(prog(x)) {
			t.Error(i)
		}
	}
	deep := st(api.StmtBreak)
	for i := range 39 {
		deep = s{Kind: api.StmtIf, Args: []e{n}, Then: []s{deep}}
		if i%2 == 0 {
			deep.Then, deep.Else = nil, deep.Then
		}
	}
	if !tree.Right(prog(deep)) || tree.Right(prog(s{Kind: api.StmtWhile, Args: []e{n}, Then: []s{deep}})) {
		t.Error("deep")
	}
}

func TestDeep(t *testing.T) { // T2
	n := num(1)
	for i, wrap := range []func(s) s{
		func(x s) s { return s{Kind: api.StmtIf, Args: []e{n}, Then: []s{x}} },
		func(x s) s { return s{Kind: api.StmtIf, Args: []e{n}, Else: []s{x}} },
		func(x s) s { return s{Kind: api.StmtWhile, Args: []e{n}, Then: []s{st(api.StmtBreak), x}} },
	} {
		x := st(api.StmtBreak)
		for deep := 1; deep < 60; deep++ {
			if tree.Right(prog(x)) != (deep <= 40) {
				t.Error(i, deep)
			}
			x = wrap(x)
		}
	}
	for i, wrap := range []func(e) e{func(x e) e { return one(api.OpNot, x) }, func(x e) e { return two(api.OpSub, x, n) }, func(x e) e { return two(api.OpSub, n, x) }, func(x e) e { return call("f", n, n, x) }, func(x e) e { return at("a", x) }} {
		x := read()
		for deep := 1; deep < 60; deep++ {
			if tree.RightExpr(x) != (deep <= 40) || tree.Right(prog(st(api.StmtPrint, x))) != (deep <= 40) {
				t.Error(i, deep)
			}
			x = wrap(x)
		}
	}
}

func TestRightHeads(t *testing.T) { // T2
	fn := func(f api.Func) api.Prog { return api.Prog{Funcs: []api.Func{{Name: "main"}, f}} }
	for i, p := range []api.Prog{{}, {Arrays: []api.Array{{Name: "a", Size: 1}, {Name: "a", Size: 1 << 20}}}, fn(api.Func{Name: "main", Params: []string{"a", "a", "b", "c", "d", "e"}, Locals: strings.Fields("a b c d e f g h")})} {
		if !tree.Right(p) {
			t.Error(i)
		}
	}
	for i, p := range []api.Prog{
		{Arrays: []api.Array{{Name: "a", Size: 0}}}, {Arrays: []api.Array{{Name: "a", Size: 1<<20 + 1}}}, {Arrays: []api.Array{{Name: "", Size: 1}}}, {Arrays: []api.Array{{Name: "a", Size: 1}, {Name: "int", Size: 1}}},
		fn(api.Func{}), fn(api.Func{Name: "0"}), fn(api.Func{Name: "f", Params: strings.Fields("a b c d e f g")}), fn(api.Func{Name: "f", Params: []string{"while"}}), fn(api.Func{Name: "f", Locals: []string{"x", ""}}),
	} {
		if tree.Right(p) {
			t.Error(i)
		}
	}
}

func TestPrintExpr(t *testing.T) { // T3
	x, y, z := vari("x"), vari("y"), vari("z")
	for want, ex := range map[string]e{
		"0": num(0), "9223372036854775807": num(1<<63 - 1), "x": x, "-x": one(api.OpNeg, x), "--1": one(api.OpNeg, one(api.OpNeg, num(1))), "!~f()": one(api.OpNot, one(api.OpInv, call("f"))),
		"(1 + x) * -2": two(api.OpMul, two(api.OpAdd, num(1), x), one(api.OpNeg, num(2))),
		"-(x + y)":     one(api.OpNeg, two(api.OpAdd, x, y)),
		"x - y - z":    two(api.OpSub, two(api.OpSub, x, y), z),
		"x - (y - z)":  two(api.OpSub, x, two(api.OpSub, y, z)),
		"x | y ^ z":    two(api.OpOr, x, two(api.OpXor, y, z)),
		"(x | y) ^ z":  two(api.OpXor, two(api.OpOr, x, y), z),
		"x << y + z":   two(api.OpShl, x, two(api.OpAdd, y, z)),
		"(x < y) >> z": two(api.OpShr, two(api.OpLt, x, y), z),
		"x < y == z":   two(api.OpEq, two(api.OpLt, x, y), z),
		"x == (y & z)": two(api.OpEq, x, two(api.OpAnd, y, z)),
		"f(x, y | z)":  call("f", x, two(api.OpOr, y, z)),
		"a[x - 1]":     at("a", two(api.OpSub, x, num(1))),
		"read() % 7":   two(api.OpRem, read(), num(7)),
	} {
		if got, err := tree.PrintExpr(ex); got != want || err != api.OK {
			t.Error(got, want, err)
		}
	}
}

func TestPrint(t *testing.T) { // T4
	x := vari("x")
	p := api.Prog{Arrays: []api.Array{{Name: "a", Size: 2}, {Name: "b", Size: 1 << 20}}, Funcs: []api.Func{
		{Name: "f", Params: []string{"n"}},
		{Name: "g", Params: []string{"n", "m"}, Locals: []string{"x", "y"}, Body: []s{
			{Kind: api.StmtSet, Name: "x", Args: []e{num(1)}}, {Kind: api.StmtStore, Name: "a", Args: []e{num(0), x}},
			{Kind: api.StmtIf, Args: []e{x}, Then: []s{st(api.StmtReturn, x)}},
			{Kind: api.StmtIf, Args: []e{x}, Else: []s{st(api.StmtPrint, x), {Kind: api.StmtIf, Args: []e{x}}}},
			{Kind: api.StmtWhile, Args: []e{x}, Then: []s{st(api.StmtBreak), {Kind: api.StmtIf, Args: []e{x}, Then: []s{st(api.StmtContinue)}, Else: []s{st(api.StmtTrap, x)}}}},
			st(api.StmtCall, call("f", x)),
		}},
		{Name: "main"},
	}}
	want := "int a[2];\nint b[1048576];\nint f(int n) {\n}\nint g(int n, int m) {\n\tint x;\n\tint y;\n\tx = 1;\n\ta[0] = x;\n\tif (x) {\n\t\treturn x;\n\t}\n\tif (x) {\n\t} else {\n\t\tprint(x);\n\t\tif (x) {\n\t\t}\n\t}\n\twhile (x) {\n\t\tbreak;\n\t\tif (x) {\n\t\t\tcontinue;\n\t\t} else {\n\t\t\ttrap(x);\n\t\t}\n\t}\n\tf(x);\n}\nint main() {\n}\n"
	if got, err := tree.Print(p); got != want || err != api.OK {
		t.Errorf("%q %d", got, err)
	}
	if got, err := tree.Print(api.Prog{}); got != "" || err != api.OK {
		t.Error(got, err)
	}
}

func TestSameAndSize(t *testing.T) { // T5
	for seed := range 60 {
		p := samples.Prog(seed)
		q := samples.Prog(seed)
		if !tree.Same(p, q) {
			t.Error(seed)
		}
		if r := samples.Prog(seed + 1); tree.Same(p, r) || tree.Same(r, p) {
			t.Error(seed)
		}
		n := count(reflect.ValueOf(p))
		if tree.Size(p) != n {
			t.Error(seed, tree.Size(p), n)
		}
	}
	n := num(1)
	base := prog(s{Kind: 7, Name: "x", Args: []e{two(1, n, n)}, Then: []s{{}}, Else: []s{{}}})
	for i, p := range []api.Prog{
		prog(s{Kind: 6, Name: "x", Args: []e{two(1, n, n)}, Then: []s{{}}, Else: []s{{}}}), prog(s{Kind: 7, Name: "y", Args: []e{two(1, n, n)}, Then: []s{{}}, Else: []s{{}}}),
		prog(s{Kind: 7, Name: "x", Args: []e{two(2, n, n)}, Then: []s{{}}, Else: []s{{}}}), prog(s{Kind: 7, Name: "x", Args: []e{two(1, n, num(2))}, Then: []s{{}}, Else: []s{{}}}),
		prog(s{Kind: 7, Name: "x", Args: []e{two(1, n, n)}, Else: []s{{}}}), prog(s{Kind: 7, Name: "x", Args: []e{two(1, n, n)}, Then: []s{{}}, Else: []s{{}, {}}}), prog(), {},
	} {
		if tree.Same(base, p) || tree.Same(p, base) {
			t.Error(i)
		}
	}
	if !tree.Same(prog(st(1)), prog(s{Kind: 1, Args: []e{}, Then: []s{}, Else: []s{}})) || tree.Size(base) != 6 || tree.Size(api.Prog{}) != 0 {
		t.Error("lists", tree.Size(base))
	}
	if tree.Same(api.Prog{Arrays: []api.Array{{Name: "a", Size: 1}}}, api.Prog{Arrays: []api.Array{{Name: "a", Size: 2}}}) || tree.Same(api.Prog{Funcs: []api.Func{{Params: []string{"a"}}}}, api.Prog{Funcs: []api.Func{{Locals: []string{"a"}}}}) {
		t.Error("heads")
	}
}

// count goes through all that a value has, and counts statements and expressions.
func count(v reflect.Value) int {
	n := 0
	switch v.Kind() {
	case reflect.Slice:
		for i := range v.Len() {
			n += count(v.Index(i))
		}
	case reflect.Struct:
		if v.Type() == reflect.TypeOf(s{}) || v.Type() == reflect.TypeOf(e{}) {
			n++
		}
		for i := range v.NumField() {
			n += count(v.Field(i))
		}
	}
	return n
}

func TestTheorem(t *testing.T) { // T6
	texts := map[string]api.Prog{}
	for seed := range 300 {
		p := samples.Prog(seed)
		text, err := tree.Print(p)
		if err != api.OK || !tree.Right(p) {
			t.Fatal(seed, err)
		}
		if q, ok := texts[text]; ok && !tree.Same(p, q) {
			t.Error(seed)
		}
		texts[text] = p
		if _, err, _ := scan.Scan(text); len(text) <= api.MaxText && err != api.OK {
			t.Error(seed, err)
		}
	}
}
