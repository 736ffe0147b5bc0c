package fold_test

import (
	"reflect"
	"slices"
	"strings"
	"testing"

	"counterproof/api"
	"counterproof/arith"
	"counterproof/fold"
	"counterproof/ir"
	"counterproof/irrun"
	"counterproof/samples"
)

type ins = api.Ins

func num(d, n int) ins        { return ins{Kind: api.InsNum, D: d, N: n} }
func move(d, a int) ins       { return ins{Kind: api.InsMove, D: d, A: a} }
func one(op, d, a int) ins    { return ins{Kind: api.InsOne, Op: op, D: d, A: a} }
func two(op, d, a, b int) ins { return ins{Kind: api.InsTwo, Op: op, D: d, A: a, B: b} }
func tell(a int) ins          { return ins{Kind: api.InsPrint, A: a} }
func read(d int) ins          { return ins{Kind: api.InsRead, D: d} }
func ret(a int) api.Term      { return api.Term{Kind: api.TermReturn, A: a} }

func unit(t api.Term, list ...ins) api.Unit {
	b := []api.Block{{Ins: list, Term: t}, {Term: ret(3)}, {Term: ret(4)}}
	return api.Unit{Arrays: []api.Array{{Name: "a", Size: 3}}, Flows: []api.Flow{{Name: "main", Values: 9, Blocks: b}, {Name: "f", Params: 2, Values: 2, Blocks: []api.Block{{Term: ret(1)}}}}}
}

func TestBecome(t *testing.T) { // C1
	branch := func(a, to, other int) api.Term { return api.Term{Kind: api.TermIf, A: a, To: to, Else: other} }
	jump := func(to int) api.Term { return api.Term{Kind: api.TermJump, To: to} }
	for i, c := range []struct {
		term api.Term
		in   []ins
		want []ins
		end  api.Term
	}{
		{branch(2, 1, 2), []ins{num(1, 2), two(api.OpMul, 2, 1, 1)}, []ins{num(1, 2), num(2, 4)}, jump(1)},
		{branch(1, 1, 2), []ins{num(1, 0)}, []ins{num(1, 0)}, jump(2)},
		{branch(1, 1, 1), []ins{read(1)}, []ins{read(1)}, branch(1, 1, 1)},
		{branch(1, 1, 2), []ins{move(1, 0)}, []ins{move(1, 0)}, branch(0, 1, 2)},
		{ret(2), []ins{move(1, 0), move(2, 1)}, []ins{move(1, 0), move(2, 0)}, ret(0)},
		{api.Term{Kind: api.TermTrap, A: 1}, []ins{move(1, 5)}, []ins{move(1, 5)}, api.Term{Kind: api.TermTrap, A: 5}},
		{jump(1), []ins{move(0, 5)}, []ins{move(0, 5)}, jump(1)},
		{ret(1), []ins{num(0, 5), move(1, 0), move(2, 1), one(api.OpNeg, 3, 2)}, []ins{num(0, 5), num(1, 5), num(2, 5), num(3, -5)}, ret(1)},
		// A value that is set is known no more, nor what was known to be it.
		{ret(1), []ins{move(1, 0), read(0), tell(1)}, []ins{move(1, 0), read(0), tell(1)}, ret(1)},
		{ret(1), []ins{move(1, 0), read(1), tell(1)}, []ins{move(1, 0), read(1), tell(1)}, ret(1)},
		{ret(1), []ins{num(0, 4), move(1, 0), read(0), tell(1), one(api.OpNot, 2, 1)}, []ins{num(0, 4), num(1, 4), read(0), tell(1), num(2, 0)}, ret(1)},
		{ret(2), []ins{move(1, 0), move(2, 0), num(0, 7), two(api.OpAdd, 3, 1, 2)}, []ins{move(1, 0), move(2, 0), num(0, 7), two(api.OpAdd, 3, 1, 2)}, ret(2)},
		{ret(0), []ins{move(1, 0), move(0, 1), tell(1)}, []ins{move(1, 0), move(0, 0), tell(0)}, ret(0)},
		{ret(0), []ins{num(0, 3), move(0, 0)}, []ins{num(0, 3), num(0, 3)}, ret(0)},
		{ret(1), []ins{move(1, 0), move(1, 1), tell(1)}, []ins{move(1, 0), move(1, 0), tell(0)}, ret(0)},
		{ret(1), []ins{move(1, 0), move(0, 0), tell(1)}, []ins{move(1, 0), move(0, 0), tell(0)}, ret(0)},
		{ret(0), []ins{move(0, 0), tell(0)}, []ins{move(0, 0), tell(0)}, ret(0)},
		{ret(1), []ins{move(1, 0), move(0, 2), tell(1), tell(0)}, []ins{move(1, 0), move(0, 2), tell(1), tell(2)}, ret(1)},
		{ret(1), []ins{move(1, 0), move(2, 1), move(1, 3), tell(2)}, []ins{move(1, 0), move(2, 0), move(1, 3), tell(0)}, ret(3)},
		// What was known of a value once, and no more, drops nothing that is known of it since.
		{ret(1), []ins{move(1, 0), num(1, 5), read(0), one(api.OpNeg, 2, 1)}, []ins{move(1, 0), num(1, 5), read(0), num(2, -5)}, ret(1)},
		{ret(1), []ins{move(1, 0), move(1, 3), read(0), tell(1)}, []ins{move(1, 0), move(1, 3), read(0), tell(3)}, ret(3)},
		{ret(1), []ins{move(1, 0), move(2, 0), read(1), move(1, 0), read(0), tell(1), tell(2)}, []ins{move(1, 0), move(2, 0), read(1), move(1, 0), read(0), tell(1), tell(2)}, ret(1)},
		// Div and Rem by 0 stay as they are, and values that are known to be numbers stay values.
		{ret(3), []ins{num(0, 6), num(1, 0), two(api.OpDiv, 3, 0, 1), two(api.OpRem, 3, 0, 1), two(api.OpDiv, 2, 1, 0)}, []ins{num(0, 6), num(1, 0), two(api.OpDiv, 3, 0, 1), two(api.OpRem, 3, 0, 1), num(2, 0)}, ret(3)},
		{ret(0), []ins{num(0, 6), two(api.OpAdd, 0, 0, 0), two(api.OpAdd, 0, 0, 1), two(api.OpAdd, 0, 0, 0)}, []ins{num(0, 6), num(0, 12), two(api.OpAdd, 0, 0, 1), two(api.OpAdd, 0, 0, 0)}, ret(0)},
		{ret(3), []ins{move(1, 0), move(2, 5), {Kind: api.InsLoad, D: 3, A: 1, Name: "a"}, {Kind: api.InsStore, A: 1, B: 2, Name: "a"}, {Kind: api.InsCall, D: 3, Name: "f", Args: []int{2, 1}}, tell(1)},
			[]ins{move(1, 0), move(2, 5), {Kind: api.InsLoad, D: 3, A: 0, Name: "a"}, {Kind: api.InsStore, A: 0, B: 5, Name: "a"}, {Kind: api.InsCall, D: 3, Name: "f", Args: []int{5, 0}}, tell(0)}, ret(3)},
		{ret(3), []ins{num(3, 1), {Kind: api.InsLoad, D: 3, Name: "a"}, one(api.OpNeg, 2, 3), num(3, 1), {Kind: api.InsCall, D: 3, Name: "f", Args: []int{3, 3}}, one(api.OpNeg, 2, 3)}, []ins{num(3, 1), {Kind: api.InsLoad, D: 3, Name: "a"}, one(api.OpNeg, 2, 3), num(3, 1), {Kind: api.InsCall, D: 3, Name: "f", Args: []int{3, 3}}, one(api.OpNeg, 2, 3)}, ret(3)},
		// An InsStore and an InsPrint set nothing, though their D is 0.
		{ret(0), []ins{num(0, 2), tell(1), {Kind: api.InsStore, A: 1, B: 2, Name: "a"}, one(api.OpInv, 1, 0)}, []ins{num(0, 2), tell(1), {Kind: api.InsStore, A: 1, B: 2, Name: "a"}, num(1, -3)}, ret(0)},
	} {
		u := unit(c.term, c.in...)
		got, err := fold.Fold(u)
		if err != api.OK || !reflect.DeepEqual(got.Flows[0].Blocks[0].Ins, c.want) || got.Flows[0].Blocks[0].Term != c.end {
			t.Error(i, err, got.Flows[0].Blocks[0], c.want)
		}
		if !reflect.DeepEqual(u, unit(c.term, c.in...)) {
			t.Error(i, "written into")
		}
	}
	for op := api.OpAdd; op <= api.OpNe; op++ {
		want, _ := arith.Two(op, -9, 4)
		if u, _ := fold.Fold(unit(ret(0), num(0, -9), num(1, 4), two(op, 2, 0, 1))); !reflect.DeepEqual(u.Flows[0].Blocks[0].Ins[2], num(2, want)) {
			t.Error(op)
		}
	}
}

func TestBlocksKnowNothingOfOneAnother(t *testing.T) { // C1
	u := unit(api.Term{Kind: api.TermJump, To: 1}, num(0, 1), move(1, 2))
	u.Flows[0].Blocks[1].Ins = []ins{one(api.OpNeg, 3, 0), tell(1)}
	got, _ := fold.Fold(u)
	a, _ := ir.Print(got)
	if b, _ := ir.Print(u); a != b {
		t.Error(a)
	}
}

func TestErrors(t *testing.T) { // C1
	for i, u := range []api.Unit{{}, unit(ret(9)), unit(ret(0), num(9, 1)), unit(api.Term{})} {
		if got, err := fold.Fold(u); err != api.ErrArg || !reflect.DeepEqual(got, api.Unit{}) {
			t.Error(i, err)
		}
	}
}

func TestKnown(t *testing.T) { // C1
	if fold.Known(api.Unit{}) != [2]int{} || fold.Known(unit(ret(0), num(0, 1), read(1), num(0, 1))) != [2]int{2, 4} || fold.Known(unit(api.Term{Kind: api.TermIf})) != [2]int{0, 3} || fold.Known(unit(api.Term{})) != [2]int{0, 4} {
		t.Error("known")
	}
}

func TestTheorem(t *testing.T) { // C2
	more := 0
	for seed := range 500 {
		u := samples.Unit(seed)
		in := samples.New(seed).Input()
		f, err := fold.Fold(u)
		if err2, _ := ir.Check(f); err != api.OK || err2 != api.OK || !reflect.DeepEqual(u, samples.Unit(seed)) {
			t.Fatal(seed, err, err2)
		}
		for _, n := range []int{0, 1, 2, 3, 10, 30, 100, 1000} {
			a, b := irrun.Run(u, in, n), irrun.Run(f, in, n)
			if a.Status != b.Status || a.Code != b.Code || a.Steps != b.Steps || !slices.Equal(a.Out, b.Out) {
				t.Error(seed, n, a, b)
			}
		}
		for i := range u.Flows {
			if len(u.Flows[i].Blocks) != len(f.Flows[i].Blocks) {
				t.Fatal(seed)
			}
			for k := range u.Flows[i].Blocks {
				if len(u.Flows[i].Blocks[k].Ins) != len(f.Flows[i].Blocks[k].Ins) {
					t.Error(seed)
				}
			}
		}
		a, b := fold.Known(u), fold.Known(f)
		if b[0] < a[0] || b[1] < a[1] {
			t.Error(seed, a, b)
		}
		if b != a {
			more++
		}
		if again, _ := fold.Fold(u); !reflect.DeepEqual(again, f) {
			t.Error(seed)
		}
	}
	if more < 50 {
		t.Error("little was known", more)
	}
}

func TestNewMemory(t *testing.T) { // R3
	for seed := range 60 {
		u := samples.Unit(seed)
		d, _ := fold.Fold(u)
		for _, f := range d.Flows {
			for _, b := range f.Blocks {
				for _, x := range b.Ins {
					for i := range x.Args {
						x.Args[i] = -1
					}
				}
				clear(b.Ins)
			}
			clear(f.Blocks)
		}
		clear(d.Arrays)
		clear(d.Flows)
		if !reflect.DeepEqual(u, samples.Unit(seed)) {
			t.Error(seed, "shared")
		}
	}
}

func TestLongBlock(t *testing.T) {
	var list []ins
	for i := range 150000 {
		list = append(list, move(1+i%8, 0), read(0))
	}
	u := unit(ret(0), list[:200000]...)
	if f, err := fold.Fold(u); err != api.OK || !strings.HasPrefix(f.Flows[0].Name, "main") {
		t.Error(err)
	}
}
