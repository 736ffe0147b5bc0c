package dead_test

import (
	"reflect"
	"slices"
	"testing"

	"counterproof/api"
	"counterproof/dead"
	"counterproof/flow"
	"counterproof/ir"
	"counterproof/irrun"
	"counterproof/samples"
)

type ins = api.Ins

func num(d, n int) ins        { return ins{Kind: api.InsNum, D: d, N: n} }
func move(d, a int) ins       { return ins{Kind: api.InsMove, D: d, A: a} }
func two(op, d, a, b int) ins { return ins{Kind: api.InsTwo, Op: op, D: d, A: a, B: b} }
func tell(a int) ins          { return ins{Kind: api.InsPrint, A: a} }
func ret(a int) api.Term      { return api.Term{Kind: api.TermReturn, A: a} }
func jump(to int) api.Term    { return api.Term{Kind: api.TermJump, To: to} }

func branch(a, to, other int) api.Term {
	return api.Term{Kind: api.TermIf, A: a, To: to, Else: other}
}

func block(t api.Term, list ...ins) api.Block { return api.Block{Ins: list, Term: t} }

func unit(b ...api.Block) api.Unit {
	return api.Unit{Arrays: []api.Array{{Name: "a", Size: 3}}, Flows: []api.Flow{{Name: "main", Values: 9, Blocks: b}}}
}

func text(u api.Unit) string {
	s, err := ir.Print(u)
	if err != api.OK {
		return "none"
	}
	return s
}

// slow is what D1 says, word by word.
func slow(u api.Unit) api.Unit {
	out := api.Unit{Arrays: u.Arrays}
	for _, f := range u.Flows {
		f.Blocks = slices.Clone(f.Blocks)
		for changed := true; changed; {
			changed = false
			all := flow.All(f)
			for i := range f.Blocks {
				var list []ins
				for k, x := range f.Blocks[i].Ins {
					pure := x.Kind == api.InsNum || x.Kind == api.InsMove || x.Kind == api.InsOne || x.Kind == api.InsTwo && x.Op != api.OpDiv && x.Op != api.OpRem
					if pure && !slices.Contains(all[i][k], x.D) || x.Kind == api.InsMove && x.A == x.D {
						changed = true
						continue
					}
					list = append(list, x)
				}
				f.Blocks[i].Ins = list
			}
		}
		reach := flow.Reach(f)
		var blocks []api.Block
		to := map[int]int{}
		for i, ok := range reach {
			if ok {
				to[i] = len(blocks)
				blocks = append(blocks, f.Blocks[i])
			}
		}
		for i := range blocks {
			e := &blocks[i].Term
			e.To, e.Else = to[e.To], to[e.Else]
			if e.Kind != api.TermIf {
				e.Else = 0
				if e.Kind != api.TermJump {
					e.To = 0
				}
			}
		}
		f.Blocks = blocks
		out.Flows = append(out.Flows, f)
	}
	return out
}

func TestDead(t *testing.T) { // D1
	call := ins{Kind: api.InsCall, D: 1, Name: "main"}
	for i, c := range []struct{ in, want []api.Block }{
		{[]api.Block{block(ret(0), num(1, 2), move(2, 1))}, []api.Block{block(ret(0))}},
		{[]api.Block{block(ret(1), num(1, 2), num(1, 3), move(1, 1), move(0, 0))}, []api.Block{block(ret(1), num(1, 3))}},
		{[]api.Block{block(ret(0), two(api.OpDiv, 1, 2, 2), two(api.OpRem, 1, 2, 2), two(api.OpAdd, 1, 2, 2), ins{Kind: api.InsOne, Op: api.OpNeg, D: 3, A: 1})}, []api.Block{block(ret(0), two(api.OpDiv, 1, 2, 2), two(api.OpRem, 1, 2, 2))}},
		{[]api.Block{block(ret(0), ins{Kind: api.InsLoad, D: 1, A: 1, Name: "a"}, ins{Kind: api.InsRead, D: 1}, call, ins{Kind: api.InsStore, A: 1, B: 2, Name: "a"}, tell(3))}, []api.Block{block(ret(0), ins{Kind: api.InsLoad, D: 1, A: 1, Name: "a"}, ins{Kind: api.InsRead, D: 1}, call, ins{Kind: api.InsStore, A: 1, B: 2, Name: "a"}, tell(3))}},
		// A value that is wanted for itself alone, around a loop, is wanted.
		{[]api.Block{block(jump(1)), block(branch(0, 1, 2), two(api.OpAdd, 1, 1, 0)), block(ret(0))}, []api.Block{block(jump(1)), block(branch(0, 1, 2), two(api.OpAdd, 1, 1, 0)), block(ret(0))}},
		{[]api.Block{block(jump(2), num(1, 1)), block(ret(1), num(1, 2)), block(jump(3), move(2, 1)), block(ret(0), move(3, 2))}, []api.Block{block(jump(1)), block(jump(2)), block(ret(0))}},
		{[]api.Block{block(branch(0, 3, 3)), block(jump(2)), block(jump(1)), block(api.Term{Kind: api.TermTrap, A: 2})}, []api.Block{block(branch(0, 1, 1)), block(api.Term{Kind: api.TermTrap, A: 2})}},
		{[]api.Block{block(jump(0), num(1, 1), move(2, 2))}, []api.Block{block(jump(0))}},
	} {
		u := unit(c.in...)
		before := text(u)
		got, err := dead.Dead(u)
		if err != api.OK || text(got) != text(unit(c.want...)) || text(u) != before {
			t.Error(i, err, text(got), text(unit(c.want...)))
		}
	}
}

func TestErrors(t *testing.T) { // D1
	for i, u := range []api.Unit{{}, unit(), unit(block(ret(9))), unit(block(ret(0), num(9, 0)))} {
		if got, err := dead.Dead(u); err != api.ErrArg || !reflect.DeepEqual(got, api.Unit{}) {
			t.Error(i, err)
		}
	}
}

func TestSize(t *testing.T) { // D1
	if dead.Size(api.Unit{}) != [2]int{} || dead.Size(unit(block(ret(0), num(1, 1)), block(api.Term{}, num(1, 1), ins{}))) != [2]int{3, 2} {
		t.Error("size")
	}
}

func TestTheorem(t *testing.T) { // D1, D2
	less := 0
	for seed := range 600 {
		u := samples.Unit(seed)
		in := samples.New(seed).Input()
		d, err := dead.Dead(u)
		if err2, _ := ir.Check(d); err != api.OK || err2 != api.OK || text(u) != text(samples.Unit(seed)) {
			t.Fatal(seed, err, err2)
		}
		if text(d) != text(slow(u)) {
			t.Error(seed, text(u), text(d))
		}
		if again, _ := dead.Dead(d); text(again) != text(d) {
			t.Error(seed)
		}
		a, b := dead.Size(u), dead.Size(d)
		if b[0] < a[0] {
			less++
		}
		for _, n := range []int{0, 1, 2, 5, 20, 60, 1000} {
			x, y := irrun.Run(u, in, n), irrun.Run(d, in, n)
			if !samples.Keeps(x, y) || x.Status != api.StatGoing && y.Steps > x.Steps {
				t.Error(seed, n, x, y)
			}
		}
	}
	if less < 100 {
		t.Error(less)
	}
}

func TestNewMemory(t *testing.T) { // R3
	for seed := range 60 {
		u := samples.Unit(seed)
		d, _ := dead.Dead(u)
		for _, f := range d.Flows {
			for _, b := range f.Blocks {
				for _, x := range b.Ins {
					for i := range x.Args {
						x.Args[i] = -1
					}
				}
				clear(b.Ins)
			}
			clear(f.Blocks)
		}
		clear(d.Arrays)
		clear(d.Flows)
		if text(u) != text(samples.Unit(seed)) {
			t.Error(seed, "shared")
		}
	}
}

func TestChain(t *testing.T) {
	var list []ins
	for i := range 49000 {
		list = append(list, move(i+1, i))
	}
	u := unit(block(ret(0), list...))
	u.Flows[0].Values = 50000
	if d, err := dead.Dead(u); err != api.OK || dead.Size(d) != [2]int{0, 1} {
		t.Error(err, dead.Size(d))
	}
}
