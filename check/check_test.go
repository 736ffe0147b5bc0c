package check_test

import (
	"slices"
	"strings"
	"testing"

	"counterproof/api"
	"counterproof/check"
	"counterproof/samples"
	"counterproof/tree"
)

func num(n int) api.Expr { return samples.Num(n) }

func set(name string, e api.Expr) api.Stmt {
	return api.Stmt{Kind: api.StmtSet, Name: name, Args: []api.Expr{e}}
}

func st(kind int, list ...api.Expr) api.Stmt { return api.Stmt{Kind: kind, Args: list} }

func call(name string, list ...api.Expr) api.Expr {
	return api.Expr{Kind: api.ExprCall, Name: name, Args: list}
}

func at(name string, e api.Expr) api.Expr {
	return api.Expr{Kind: api.ExprIndex, Name: name, Args: []api.Expr{e}}
}

func store(name string, a, b api.Expr) api.Stmt {
	return api.Stmt{Kind: api.StmtStore, Name: name, Args: []api.Expr{a, b}}
}

func fn(name, params, locals string, body ...api.Stmt) api.Func {
	return api.Func{Name: name, Params: strings.Fields(params), Locals: strings.Fields(locals), Body: body}
}

func prog(arrays string, list ...api.Func) api.Prog {
	var p api.Prog
	for _, a := range strings.Fields(arrays) {
		p.Arrays = append(p.Arrays, api.Array{Name: a, Size: 1})
	}
	p.Funcs = list
	return p
}

func loop(list ...api.Stmt) api.Stmt {
	return api.Stmt{Kind: api.StmtWhile, Args: []api.Expr{num(1)}, Then: list}
}

func branch(then, other []api.Stmt) api.Stmt {
	return api.Stmt{Kind: api.StmtIf, Args: []api.Expr{num(1)}, Then: then, Else: other}
}

func list(s ...api.Stmt) []api.Stmt { return s }

func TestPlaces(t *testing.T) { // C1
	p := prog("b a b", fn("f", "", ""), fn("g", "", ""), fn("f", "", ""))
	for name, want := range map[string]int{"f": 0, "g": 1, "h": -1, "a": -1, "": -1} {
		if check.Place(p, name) != want {
			t.Error(name)
		}
	}
	for name, want := range map[string]int{"b": 0, "a": 1, "f": -1, "": -1} {
		if check.Array(p, name) != want {
			t.Error(name)
		}
	}
	if check.Place(api.Prog{}, "main") != -1 || check.Array(api.Prog{}, "a") != -1 {
		t.Error("empty")
	}
}

func TestCheck(t *testing.T) { // C2
	x, y := samples.Var("x"), samples.Var("y")
	ok := set("x", num(1))
	main := fn("main", "", "")
	for i, c := range []struct {
		p    api.Prog
		err  api.Errno
		f, n int
	}{
		{prog("", main), api.OK, 0, 0},
		{prog("a b", fn("f", "p", "x", store("a", num(0), at("b", samples.Var("p"))), st(api.StmtCall, call("f", x))), main), api.OK, 0, 0},
		{api.Prog{Funcs: []api.Func{{Name: "9"}}}, api.ErrArg, 0, 0},
		{prog("a", fn("main", "", "x", ok, api.Stmt{})), api.ErrArg, 0, 0},
		{prog("a a", main), api.ErrTwice, 0, 0},
		{prog("a a"), api.ErrTwice, 0, 0},
		{prog("a", fn("f", "", ""), fn("f", "", "")), api.ErrTwice, 0, 0},
		{prog("a", main, fn("a", "", "")), api.ErrTwice, 0, 0},
		{prog("main"), api.ErrMain, 0, 0},
		{prog(""), api.ErrMain, 0, 0},
		{prog("", fn("f", "x x", "")), api.ErrMain, 0, 0},
		{prog("", fn("f", "", ""), fn("main", "a", "")), api.ErrMain, 0, 0},
		{prog("", main, fn("f", "x y x", "")), api.ErrTwice, 1, 0},
		{prog("", main, fn("f", "x", "y x", st(api.StmtBreak))), api.ErrTwice, 1, 0},
		{prog("a", main, fn("f", "", "a")), api.ErrTwice, 1, 0},
		{prog("a", main, fn("f", "g", ""), fn("g", "", "")), api.ErrTwice, 1, 0},
		{prog("a", fn("main", "", "main")), api.ErrTwice, 0, 0},
		{prog("", fn("f", "", "x", ok, st(api.StmtPrint, y)), fn("main", "", "main")), api.ErrUnknown, 0, 1},
		{prog("", fn("main", "", "x", ok, st(api.StmtBreak))), api.ErrLoop, 0, 1},
		{prog("", fn("main", "", "x", loop(branch(list(st(api.StmtBreak)), list(ok, st(api.StmtContinue)))), ok, branch(list(ok), list(ok, st(api.StmtContinue))))), api.ErrLoop, 0, 9},
		{prog("", fn("main", "", "x", ok, branch(list(ok, ok), list(ok, set("y", y))))), api.ErrUnknown, 0, 5},
		{prog("", fn("main", "", "x", ok, branch(list(ok, set("y", y)), list(ok, st(api.StmtBreak))))), api.ErrUnknown, 0, 3},
		{prog("a", fn("main", "", "x", set("a", x))), api.ErrUnknown, 0, 0},
		{prog("a", fn("main", "", "x", ok, set("main", x))), api.ErrUnknown, 0, 1},
		{prog("a", fn("main", "", "x", store("x", x, x))), api.ErrUnknown, 0, 0},
		{prog("a", fn("main", "", "x", store("main", x, x))), api.ErrUnknown, 0, 0},
		{prog("a", fn("main", "", "x", st(api.StmtPrint, samples.Var("a")))), api.ErrUnknown, 0, 0},
		{prog("a", fn("main", "", "x", st(api.StmtPrint, at("x", x)))), api.ErrUnknown, 0, 0},
		{prog("a", fn("main", "", "x", st(api.StmtPrint, call("x")))), api.ErrUnknown, 0, 0},
		{prog("a", fn("main", "", "x", st(api.StmtPrint, call("a")))), api.ErrUnknown, 0, 0},
		{prog("a", fn("main", "", "x", st(api.StmtCall, call("main", y)))), api.ErrArity, 0, 0},
		{prog("a", fn("main", "", "x", st(api.StmtCall, call("none", call("main", x))))), api.ErrUnknown, 0, 0},
		{prog("a", fn("main", "", "x", st(api.StmtPrint, samples.Two(api.OpAdd, call("main", x), y)))), api.ErrArity, 0, 0},
		{prog("a", fn("main", "", "x", st(api.StmtPrint, samples.Two(api.OpAdd, y, call("main", x))))), api.ErrUnknown, 0, 0},
		{prog("a", fn("main", "", "x", store("a", y, call("main", x)))), api.ErrUnknown, 0, 0},
		{prog("a", fn("main", "", "x", store("a", call("main", x), y))), api.ErrArity, 0, 0},
		{prog("a", fn("main", "", "", loop(st(api.StmtPrint, call("f", num(1))))), fn("f", "x y", "")), api.ErrArity, 0, 1},
		{prog("a", fn("g", "", "x"), fn("main", "", "", set("x", num(1)))), api.ErrUnknown, 1, 0},
	} {
		if err, place := check.Check(c.p); err != c.err || place != [2]int{c.f, c.n} {
			t.Error(i, err, place)
		}
	}
}

func TestFineOnes(t *testing.T) { // C3
	for seed := range 400 {
		p := samples.Prog(seed)
		if err, at := check.Check(p); err != api.OK || at != [2]int{} {
			t.Error(seed, err, at)
		}
		slices.Reverse(p.Funcs)
		slices.Reverse(p.Arrays)
		if err, _ := check.Check(p); err != api.OK {
			t.Error(seed, err)
		}
	}
}

// TestOneWrongName puts a name that is none into each statement, in turn.
func TestOneWrongName(t *testing.T) { // C3
	for seed := range 100 {
		p := samples.Prog(seed)
		for i := range p.Funcs {
			n := 0
			spoil(p.Funcs[i].Body, func() {
				if err, at := check.Check(p); err != api.ErrUnknown || at != [2]int{i, n} || !tree.Right(p) {
					t.Error(seed, i, n, err, at)
				}
			}, &n)
		}
	}
}

func spoil(list []api.Stmt, look func(), n *int) {
	for i := range list {
		s := &list[i]
		if len(s.Args) > 0 {
			last := &s.Args[len(s.Args)-1]
			old := *last
			if s.Kind == api.StmtCall {
				*last = call("none")
			} else {
				*last = samples.Var("none")
			}
			look()
			*last = old
		}
		*n++
		spoil(s.Then, look, n)
		spoil(s.Else, look, n)
	}
}
