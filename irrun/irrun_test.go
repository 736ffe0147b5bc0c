package irrun_test

import (
	"reflect"
	"slices"
	"strings"
	"testing"

	"counterproof/api"
	"counterproof/arith"
	"counterproof/ir"
	"counterproof/irrun"
	"counterproof/samples"
)

type ins = api.Ins

func run(status, code, steps int, out ...int) api.Run {
	return api.Run{Status: status, Code: code, Steps: steps, Out: out}
}

func same(a, b api.Run) bool {
	return a.Status == b.Status && a.Code == b.Code && a.Steps == b.Steps && slices.Equal(a.Out, b.Out)
}

func ret(a int) api.Term { return api.Term{Kind: api.TermReturn, A: a} }

func block(t api.Term, list ...ins) api.Block { return api.Block{Ins: list, Term: t} }

func num(d, n int) ins        { return ins{Kind: api.InsNum, D: d, N: n} }
func move(d, a int) ins       { return ins{Kind: api.InsMove, D: d, A: a} }
func tell(a int) ins          { return ins{Kind: api.InsPrint, A: a} }
func read(d int) ins          { return ins{Kind: api.InsRead, D: d} }
func one(op, d, a int) ins    { return ins{Kind: api.InsOne, Op: op, D: d, A: a} }
func two(op, d, a, b int) ins { return ins{Kind: api.InsTwo, Op: op, D: d, A: a, B: b} }
func fetch(d, a int) ins      { return ins{Kind: api.InsLoad, D: d, A: a, Name: "a"} }
func store(a, b int) ins      { return ins{Kind: api.InsStore, A: a, B: b, Name: "a"} }
func invoke(d int, name string, args ...int) ins {
	return ins{Kind: api.InsCall, D: d, Name: name, Args: args}
}

func main(b ...api.Block) api.Flow { return api.Flow{Name: "main", Values: 4, Blocks: b} }

func flow(name string, params int, b ...api.Block) api.Flow {
	return api.Flow{Name: name, Params: params, Values: params + 4, Blocks: b}
}

func TestRun(t *testing.T) { // R1
	jump := func(to int) api.Term { return api.Term{Kind: api.TermJump, To: to} }
	branch := func(a, to, other int) api.Term { return api.Term{Kind: api.TermIf, A: a, To: to, Else: other} }
	deep := flow("f", 1, block(branch(0, 1, 2)), block(ret(2), num(1, 1), two(api.OpSub, 0, 0, 1), invoke(2, "f", 0)), block(ret(0)))
	for i, c := range []struct {
		flows []api.Flow
		in    []int
		want  api.Run
	}{
		{[]api.Flow{main(block(ret(0)))}, nil, run(1, 0, 1)},
		{[]api.Flow{main(block(ret(1), num(0, -4), move(1, 0), one(api.OpNeg, 1, 1), two(api.OpMul, 1, 1, 0)))}, nil, run(1, -16, 5)},
		{[]api.Flow{main(block(ret(0), read(0), tell(0), read(0), tell(0), tell(3)))}, []int{8}, run(1, -1, 6, 8, -1, 0)},
		{[]api.Flow{main(block(ret(0), tell(1), two(api.OpDiv, 0, 1, 1), tell(1)))}, nil, run(2, 0, 2, 0)},
		{[]api.Flow{main(block(ret(0), two(api.OpRem, 0, 1, 1)))}, nil, run(2, 0, 1)},
		{[]api.Flow{main(block(ret(2), num(0, 1), num(1, 9), store(0, 1), fetch(2, 0), fetch(3, 3), tell(3)))}, nil, run(1, 9, 7, 0)},
		{[]api.Flow{main(block(ret(2), num(0, 2), fetch(1, 0)))}, nil, run(3, 0, 2)}, {[]api.Flow{main(block(ret(2), num(0, -1), store(0, 1)))}, nil, run(3, 0, 2)},
		{[]api.Flow{main(block(api.Term{Kind: api.TermTrap, A: 0}, num(0, -6)))}, nil, run(5, -6, 2)},
		{[]api.Flow{main(block(branch(0, 1, 2)), block(ret(0), num(0, 1)), block(jump(3), num(0, 2)), block(branch(0, 1, 2), tell(0)))}, nil, run(1, 1, 7, 2)},
		{[]api.Flow{main(block(ret(1), num(0, 5), num(2, 6), invoke(1, "f", 2, 0), tell(0))), flow("f", 2, block(ret(2), tell(0), tell(1), tell(2), two(api.OpSub, 2, 0, 1)))}, nil, run(1, 1, 10, 6, 5, 0, 5)},
		{[]api.Flow{flow("f", 0, block(ret(0), invoke(0, "f"))), main(block(ret(0), invoke(0, "f")))}, nil, run(4, 0, 50)},
		{[]api.Flow{deep, main(block(ret(1), num(0, 48), invoke(1, "f", 0)))}, nil, run(1, 0, 3+48*5+2)},
		{[]api.Flow{deep, main(block(ret(1), num(0, 49), invoke(1, "f", 0)))}, nil, run(4, 0, 2+49*4)},
	} {
		u := api.Unit{Arrays: []api.Array{{Name: "a", Size: 2}}, Flows: c.flows}
		got := irrun.Run(u, c.in, 1000)
		if !same(got, c.want) {
			t.Error(i, got, c.want)
		}
		for n := -1; n < got.Steps+3; n++ {
			r := irrun.Run(u, c.in, n)
			if n >= got.Steps && !same(r, got) || n < got.Steps && (r.Status != api.StatGoing || r.Code != 0 || r.Steps != max(n, 0) || !slices.Equal(r.Out, got.Out[:len(r.Out)])) {
				t.Error(i, n, r)
			}
		}
	}
	for _, op := range []int{api.OpNeg, api.OpNot, api.OpInv} {
		want, _ := arith.One(op, 12)
		if r := irrun.Run(api.Unit{Flows: []api.Flow{main(block(ret(0), num(1, 12), one(op, 0, 1)))}}, nil, 9); !same(r, run(1, want, 3)) {
			t.Error(op, r)
		}
	}
	for op := api.OpAdd; op <= api.OpNe; op++ {
		want, _ := arith.Two(op, -12, 5)
		if r := irrun.Run(api.Unit{Flows: []api.Flow{main(block(ret(0), num(1, -12), num(2, 5), two(op, 0, 1, 2)))}}, nil, 9); !same(r, run(1, want, 4)) {
			t.Error(op, r)
		}
	}
}

func TestRunOfWhatMayNotBe(t *testing.T) { // R1, wrong inputs
	for i, u := range []api.Unit{{}, {Flows: []api.Flow{main()}}, {Flows: []api.Flow{main(block(ret(4)))}}, {Flows: []api.Flow{main(block(ret(0), fetch(0, 0)))}}, {Flows: []api.Flow{flow("main", 1, block(ret(0)))}}} {
		if r := irrun.Run(u, []int{1}, 50); !reflect.DeepEqual(r, api.Run{}) {
			t.Error(i, r)
		}
	}
}

// turned is a unit whose blocks, but the first ones, stand in another order, and whose values, but params, have other numbers.
func turned(u api.Unit) api.Unit {
	out := api.Unit{Arrays: u.Arrays}
	for _, f := range u.Flows {
		n := len(f.Blocks)
		b := func(i int) int {
			if i == 0 {
				return 0
			}
			return n - i
		}
		v := func(i int) int {
			if i < f.Params {
				return i
			}
			return f.Values - 1 - (i - f.Params)
		}
		g := api.Flow{Name: f.Name, Params: f.Params, Values: f.Values, Blocks: make([]api.Block, n)}
		for i, old := range f.Blocks {
			var list []ins
			for _, x := range old.Ins {
				y := x
				if ir.Sets(x) >= 0 {
					y.D = v(x.D)
				}
				if x.Kind != api.InsNum && x.Kind != api.InsRead && x.Kind != api.InsCall {
					y.A = v(x.A)
				}
				if x.Kind == api.InsTwo || x.Kind == api.InsStore {
					y.B = v(x.B)
				}
				y.Args = nil
				for _, a := range x.Args {
					y.Args = append(y.Args, v(a))
				}
				list = append(list, y)
			}
			e := old.Term
			if e.Kind != api.TermJump {
				e.A = v(e.A)
			}
			if e.Kind == api.TermJump || e.Kind == api.TermIf {
				e.To = b(e.To)
			}
			if e.Kind == api.TermIf {
				e.Else = b(e.Else)
			}
			g.Blocks[b(i)] = block(e, list...)
		}
		out.Flows = append(out.Flows, g)
	}
	return out
}

func TestTheorem(t *testing.T) { // R2
	ended := 0
	for seed := range 500 {
		u := samples.Unit(seed)
		in := samples.New(seed).Input()
		r := irrun.Run(u, in, 2000)
		if r.Status != api.StatGoing {
			ended++
		}
		if q := irrun.Run(turned(u), in, 2000); !same(q, r) {
			t.Error(seed, q, r)
		}
		for _, n := range []int{2, 50, 1999, 2001, 5000} {
			q := irrun.Run(u, in, n)
			k := min(len(q.Out), len(r.Out))
			if r.Status != api.StatGoing && n >= r.Steps && !same(q, r) || !slices.Equal(q.Out[:k], r.Out[:k]) {
				t.Error(seed, n)
			}
		}
		if s, _ := ir.Print(u); !strings.Contains(s, "read") && !same(irrun.Run(u, append(in, 3), 2000), r) {
			t.Error(seed)
		}
	}
	if ended < 100 {
		t.Error(ended)
	}
}
