package tree

import (
	"strconv"
	"strings"

	"counterproof/api"
	"counterproof/arith"
)

// tight is the level of what takes one number: parts of a lower one stand in parentheses.
const tight = 9

// printer writes texts of what is right.
type printer struct {
	strings.Builder
	deep int // how many tabs a line has ahead
}

// Print is a program's text.
func Print(p api.Prog) (string, api.Errno) {
	if !Right(p) {
		return "", api.ErrArg
	}
	w := &printer{}
	for _, a := range p.Arrays {
		w.line("int ", a.Name, "[", strconv.Itoa(a.Size), "];")
	}
	for _, f := range p.Funcs {
		w.function(f)
	}
	return w.String(), api.OK
}

// PrintExpr is an expression's text.
func PrintExpr(e api.Expr) (string, api.Errno) {
	if !RightExpr(e) {
		return "", api.ErrArg
	}
	w := &printer{}
	w.expr(e)
	return w.String(), api.OK
}

// put writes texts where the printer stands.
func (w *printer) put(texts ...string) {
	for _, s := range texts {
		w.WriteString(s)
	}
}

func (w *printer) indent() { w.put(strings.Repeat("\t", w.deep)) }

func (w *printer) line(texts ...string) {
	w.indent()
	w.put(texts...)
	w.put("\n")
}

func (w *printer) function(f api.Func) {
	w.put("int ", f.Name, "(")
	for i, name := range f.Params {
		if i > 0 {
			w.put(", ")
		}
		w.put("int ", name)
	}
	w.put(") {\n")
	w.deep++
	for _, name := range f.Locals {
		w.line("int ", name, ";")
	}
	w.list(f.Body)
	w.deep--
	w.line("}")
}

func (w *printer) list(list []api.Stmt) {
	for _, s := range list {
		w.stmt(s)
	}
}

func (w *printer) stmt(s api.Stmt) {
	w.indent()
	switch s.Kind {
	case api.StmtSet:
		w.around(s.Name+" = ", s.Args[0], ";\n")
	case api.StmtStore:
		w.around(s.Name+"[", s.Args[0], "] = ")
		w.around("", s.Args[1], ";\n")
	case api.StmtIf:
		w.around("if (", s.Args[0], ") {\n")
		w.within(s.Then)
		if len(s.Else) > 0 {
			w.line("} else {")
			w.within(s.Else)
		}
		w.line("}")
	case api.StmtWhile:
		w.around("while (", s.Args[0], ") {\n")
		w.within(s.Then)
		w.line("}")
	case api.StmtBreak:
		w.put("break;\n")
	case api.StmtContinue:
		w.put("continue;\n")
	case api.StmtReturn:
		w.around("return ", s.Args[0], ";\n")
	case api.StmtPrint:
		w.around("print(", s.Args[0], ");\n")
	case api.StmtTrap:
		w.around("trap(", s.Args[0], ");\n")
	case api.StmtCall:
		w.around("", s.Args[0], ";\n")
	}
}

// within writes statements that stand in another one.
func (w *printer) within(list []api.Stmt) {
	w.deep++
	w.list(list)
	w.deep--
}

// around writes an expression, and what stands ahead of it and behind.
func (w *printer) around(ahead string, e api.Expr, behind string) {
	w.put(ahead)
	w.expr(e)
	w.put(behind)
}

func (w *printer) expr(e api.Expr) {
	sign, _ := arith.Sign(e.Op)
	switch e.Kind {
	case api.ExprNum:
		w.put(strconv.Itoa(e.N))
	case api.ExprVar:
		w.put(e.Name)
	case api.ExprOne:
		w.put(sign)
		w.part(e.Args[0], tight)
	case api.ExprTwo:
		level := arith.Level(e.Op)
		w.part(e.Args[0], level)
		w.put(" ", sign, " ")
		w.part(e.Args[1], level+1)
	case api.ExprCall:
		w.put(e.Name, "(")
		for i, a := range e.Args {
			if i > 0 {
				w.put(", ")
			}
			w.expr(a)
		}
		w.put(")")
	case api.ExprIndex:
		w.around(e.Name+"[", e.Args[0], "]")
	case api.ExprRead:
		w.put("read()")
	}
}

// part writes a part that must bind at least as strongly as a level says.
func (w *printer) part(e api.Expr, level int) {
	if e.Kind == api.ExprTwo && arith.Level(e.Op) < level {
		w.around("(", e, ")")
		return
	}
	w.expr(e)
}
