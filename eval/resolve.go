package eval

import "counterproof/api"

// A program is run in a form in which names are places: looking names up at each step would take most of a run's time.

// routine is a function: how many variables it has, params first, and its statements.
type routine struct {
	vars int
	body []order
}

// order is a statement: at is the place of its variable, or of its array's first word, size that array's.
type order struct {
	kind, at, size int
	args           []node
	then, other    []order
}

// node is an expression: at is the place of its variable, function, or array's first word; n its number, or its array's size.
type node struct {
	kind, op, n, at int
	args            []node
}

// span is where an array's words stand.
type span struct{ base, size int }

type resolver struct {
	arrays      map[string]span
	funcs, vars map[string]int
}

// resolve is the form of a program that has no wrong name.
func resolve(p api.Prog) []routine {
	x := &resolver{arrays: map[string]span{}, funcs: map[string]int{}}
	base := 0
	for _, a := range p.Arrays {
		x.arrays[a.Name] = span{base, a.Size}
		base += a.Size
	}
	for i, f := range p.Funcs {
		x.funcs[f.Name] = i
	}
	out := make([]routine, len(p.Funcs))
	for i, f := range p.Funcs {
		x.vars = map[string]int{}
		for _, name := range f.Params {
			x.vars[name] = len(x.vars)
		}
		for _, name := range f.Locals {
			x.vars[name] = len(x.vars)
		}
		out[i] = routine{vars: len(x.vars), body: x.list(f.Body)}
	}
	return out
}

func (x *resolver) list(list []api.Stmt) []order {
	out := make([]order, len(list))
	for i, s := range list {
		out[i] = order{kind: s.Kind, args: x.exprs(s.Args), then: x.list(s.Then), other: x.list(s.Else)}
		switch s.Kind {
		case api.StmtSet:
			out[i].at = x.vars[s.Name]
		case api.StmtStore:
			a := x.arrays[s.Name]
			out[i].at, out[i].size = a.base, a.size
		}
	}
	return out
}

func (x *resolver) exprs(list []api.Expr) []node {
	out := make([]node, len(list))
	for i, e := range list {
		out[i] = node{kind: e.Kind, op: e.Op, n: e.N, args: x.exprs(e.Args)}
		switch e.Kind {
		case api.ExprVar:
			out[i].at = x.vars[e.Name]
		case api.ExprCall:
			out[i].at = x.funcs[e.Name]
		case api.ExprIndex:
			a := x.arrays[e.Name]
			out[i].at, out[i].n = a.base, a.size
		}
	}
	return out
}

// memory keeps words in pages, of which there are those that were written into: arrays may have far more words than a run ever touches.
type memory map[int]*page

type page [512]int

func (m memory) get(at int) int {
	p := m[at/len(page{})]
	if p == nil {
		return 0
	}
	return p[at%len(page{})]
}

func (m memory) put(at, v int) {
	p := m[at/len(page{})]
	if p == nil {
		p = &page{}
		m[at/len(page{})] = p
	}
	p[at%len(page{})] = v
}
