package eval

import (
	"counterproof/api"
	"counterproof/words"
)

// A program is run in a form in which names are places: looking names up at each step would take most of a run's time.

// routine is a function: how many variables it has, params first, and its statements.
type routine struct {
	vars int
	body []order
}

// order is a statement: at is the place of its variable, array where its array stands.
type order struct {
	kind, at    int
	array       words.Span
	args        []node
	then, other []order
}

// node is an expression: at is the place of its variable, or function, array where its array stands.
type node struct {
	kind, op, n, at int
	array           words.Span
	args            []node
}

type resolver struct {
	arrays      map[string]words.Span
	funcs, vars map[string]int
}

// resolve is the form of a program that has no wrong name.
func resolve(p api.Prog) []routine {
	x := &resolver{arrays: map[string]words.Span{}, funcs: map[string]int{}}
	sizes := make([]int, len(p.Arrays))
	for i, a := range p.Arrays {
		sizes[i] = a.Size
	}
	for i, s := range words.Spans(sizes) {
		x.arrays[p.Arrays[i].Name] = s
	}
	for i, f := range p.Funcs {
		x.funcs[f.Name] = i
	}
	out := make([]routine, len(p.Funcs))
	for i, f := range p.Funcs {
		x.vars = map[string]int{}
		for _, name := range f.Params {
			x.vars[name] = len(x.vars)
		}
		for _, name := range f.Locals {
			x.vars[name] = len(x.vars)
		}
		out[i] = routine{vars: len(x.vars), body: x.list(f.Body)}
	}
	return out
}

func (x *resolver) list(list []api.Stmt) []order {
	out := make([]order, len(list))
	for i, s := range list {
		out[i] = order{kind: s.Kind, args: x.exprs(s.Args), then: x.list(s.Then), other: x.list(s.Else)}
		switch s.Kind {
		case api.StmtSet:
			out[i].at = x.vars[s.Name]
		case api.StmtStore:
			out[i].array = x.arrays[s.Name]
		}
	}
	return out
}

func (x *resolver) exprs(list []api.Expr) []node {
	out := make([]node, len(list))
	for i, e := range list {
		out[i] = node{kind: e.Kind, op: e.Op, n: e.N, args: x.exprs(e.Args)}
		switch e.Kind {
		case api.ExprVar:
			out[i].at = x.vars[e.Name]
		case api.ExprCall:
			out[i].at = x.funcs[e.Name]
		case api.ExprIndex:
			out[i].array = x.arrays[e.Name]
		}
	}
	return out
}
