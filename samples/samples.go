// Package samples makes programs by a number, for the layers' tests: the same number makes the same one, each time.
package samples

import (
	"slices"
	"strconv"

	"counterproof/api"
)

// Source tells numbers that go all over the place, and follow from the first one alone.
type Source struct{ state uint64 }

// New is a source by a number.
func New(seed int) *Source {
	return &Source{state: uint64(seed)*0x9e3779b97f4a7c15 + 0x1234567}
}

// Below is a number from 0 to below n.
func (s *Source) Below(n int) int {
	s.state += 0x9e3779b97f4a7c15
	x := s.state
	x = (x ^ x>>30) * 0xbf58476d1ce4e5b9
	x = (x ^ x>>27) * 0x94d049bb133111eb
	return int((x ^ x>>31) % uint64(n))
}

// Number is one of those that are apt to find faults.
func (s *Source) Number() int {
	switch s.Below(12) {
	case 0:
		return 0
	case 1:
		return 1
	case 2:
		return 1<<63 - 1
	case 3:
		return 1 << uint(s.Below(63))
	case 4:
		return s.Below(1 << 40)
	}
	return s.Below(10)
}

// Input are some numbers to read.
func (s *Source) Input() []int {
	out := make([]int, s.Below(6))
	for i := range out {
		out[i] = s.Number()
		if s.Below(3) == 0 {
			out[i] = -out[i] - 1
		}
	}
	return out
}

// maker makes a program whose names are all there.
type maker struct {
	*Source
	prog  api.Prog
	names []string // of the function that is made
	loops int      // that the statement stands in
}

// Prog is a program that may be, by a number.
func Prog(seed int) api.Prog {
	m := &maker{Source: New(seed)}
	for i := range m.Below(3) {
		m.prog.Arrays = append(m.prog.Arrays, api.Array{Name: "a" + strconv.Itoa(i), Size: 1 + m.Below(9)})
	}
	for i := range 1 + m.Below(4) {
		f := api.Func{Name: "f" + strconv.Itoa(i)}
		for k := range m.Below(1 + m.Below(api.MaxParams+1)) {
			f.Params = append(f.Params, "p"+strconv.Itoa(k))
		}
		m.prog.Funcs = append(m.prog.Funcs, f)
	}
	at := m.Below(len(m.prog.Funcs))
	m.prog.Funcs[at].Name, m.prog.Funcs[at].Params = "main", nil
	for i := range m.prog.Funcs {
		m.function(&m.prog.Funcs[i])
	}
	return m.prog
}

func (m *maker) function(f *api.Func) {
	for k := range 1 + m.Below(5) {
		f.Locals = append(f.Locals, "x"+strconv.Itoa(k))
	}
	m.names = append(append([]string{}, f.Params...), f.Locals...)
	f.Body = m.list(4)
}

func (m *maker) list(deep int) []api.Stmt {
	var out []api.Stmt
	for range m.Below(6) {
		out = append(out, m.stmt(deep))
	}
	return out
}

func (m *maker) name() string { return m.names[m.Below(len(m.names))] }

func (m *maker) stmt(deep int) api.Stmt {
	switch m.Below(20) {
	case 0, 1:
		if deep > 0 {
			return api.Stmt{Kind: api.StmtIf, Args: m.exprs(1, 3), Then: m.list(deep - 1), Else: m.list(deep - 1)}
		}
	case 2, 3:
		if deep > 0 {
			return m.loop(deep)
		}
	case 4:
		if m.loops > 0 {
			return api.Stmt{Kind: api.StmtBreak + m.Below(2)}
		}
	case 5:
		if m.Below(3) == 0 {
			return api.Stmt{Kind: api.StmtReturn, Args: m.exprs(1, 3)}
		}
	case 6:
		if m.Below(6) == 0 {
			return api.Stmt{Kind: api.StmtTrap, Args: m.exprs(1, 2)}
		}
	case 7:
		return api.Stmt{Kind: api.StmtCall, Args: []api.Expr{m.call(2)}}
	case 8, 9, 10, 11:
		return api.Stmt{Kind: api.StmtPrint, Args: m.exprs(1, 4)}
	case 12, 13:
		if len(m.prog.Arrays) > 0 {
			a := m.array()
			return api.Stmt{Kind: api.StmtStore, Name: a.Name, Args: []api.Expr{m.index(a, 2), m.expr(3)}}
		}
	}
	return api.Stmt{Kind: api.StmtSet, Name: m.name(), Args: m.exprs(1, 4)}
}

// loop is mostly one that comes to its end.
func (m *maker) loop(deep int) api.Stmt {
	m.loops++
	x := m.name()
	s := api.Stmt{Kind: api.StmtWhile, Then: m.list(deep - 1)}
	if m.Below(8) == 0 {
		s.Args = m.exprs(1, 2)
	} else {
		s.Args = []api.Expr{Two(api.OpLt, Var(x), Num(2+m.Below(6)))}
		step := api.Stmt{Kind: api.StmtSet, Name: x, Args: []api.Expr{Two(api.OpAdd, Var(x), Num(1))}}
		s.Then = append([]api.Stmt{step}, s.Then...)
	}
	m.loops--
	return s
}

func (m *maker) array() api.Array { return m.prog.Arrays[m.Below(len(m.prog.Arrays))] }

// index is mostly a place that there is.
func (m *maker) index(a api.Array, deep int) api.Expr {
	if m.Below(8) == 0 {
		return m.expr(deep)
	}
	if m.Below(2) == 0 {
		return Num(m.Below(a.Size))
	}
	return Two(api.OpRem, Two(api.OpAnd, m.expr(deep), Num(1<<62)), Num(a.Size))
}

func (m *maker) exprs(n, deep int) []api.Expr {
	var out []api.Expr
	for range n {
		out = append(out, m.expr(deep))
	}
	return out
}

func (m *maker) call(deep int) api.Expr {
	f := m.prog.Funcs[m.Below(len(m.prog.Funcs))]
	return api.Expr{Kind: api.ExprCall, Name: f.Name, Args: m.exprs(len(f.Params), deep)}
}

func (m *maker) expr(deep int) api.Expr {
	if deep <= 0 || m.Below(4) == 0 {
		return m.leaf()
	}
	switch m.Below(9) {
	case 0:
		if m.Below(2) == 0 {
			return m.call(deep - 1)
		}
	case 1:
		if len(m.prog.Arrays) > 0 {
			a := m.array()
			return api.Expr{Kind: api.ExprIndex, Name: a.Name, Args: []api.Expr{m.index(a, deep-1)}}
		}
	case 2:
		return api.Expr{Kind: api.ExprOne, Op: api.OpNeg + m.Below(3), Args: m.exprs(1, deep-1)}
	case 3:
		return m.leaf()
	}
	return Two(api.OpAdd+m.Below(16), m.expr(deep-1), m.expr(deep-1))
}

func (m *maker) leaf() api.Expr {
	switch m.Below(8) {
	case 0:
		return api.Expr{Kind: api.ExprRead}
	case 1, 2, 3:
		return Num(m.Number())
	}
	return Var(m.name())
}

// Num, Var and Two are expressions.
func Num(n int) api.Expr { return api.Expr{Kind: api.ExprNum, N: n} }

func Var(name string) api.Expr { return api.Expr{Kind: api.ExprVar, Name: name} }

func Two(op int, a, b api.Expr) api.Expr {
	return api.Expr{Kind: api.ExprTwo, Op: op, Args: []api.Expr{a, b}}
}

// Keeps tells whether a run that had steps enough keeps to another one: tells what it told, and ends as it ended, if it did.
func Keeps(a, b api.Run) bool {
	if a.Status != api.StatGoing {
		return a.Status == b.Status && a.Code == b.Code && slices.Equal(a.Out, b.Out)
	}
	return len(a.Out) <= len(b.Out) && slices.Equal(a.Out, b.Out[:len(a.Out)])
}
