package flow_test

import (
	"slices"
	"testing"

	"counterproof/api"
	"counterproof/flow"
	"counterproof/ir"
	"counterproof/irrun"
	"counterproof/samples"
)

type ins = api.Ins

func block(t api.Term, list ...ins) api.Block { return api.Block{Ins: list, Term: t} }

func ret(a int) api.Term { return api.Term{Kind: api.TermReturn, A: a} }

// wanted tells by the words alone, going onward along all ways, whether a value is wanted ahead of instruction at of a block.
func wanted(f api.Flow, b, at, v int, seen map[[2]int]bool) bool {
	if seen[[2]int{b, at}] {
		return false
	}
	seen[[2]int{b, at}] = true
	x := f.Blocks[b]
	if at < len(x.Ins) {
		if slices.Contains(ir.Uses(x.Ins[at]), v) {
			return true
		}
		return ir.Sets(x.Ins[at]) != v && wanted(f, b, at+1, v, seen)
	}
	if x.Term.Kind >= api.TermIf && x.Term.Kind <= api.TermTrap && x.Term.A == v {
		return true
	}
	for _, to := range ir.Next(x.Term) {
		if wanted(f, to, 0, v, seen) {
			return true
		}
	}
	return false
}

func ahead(f api.Flow, b, at int) []int {
	var out []int
	for v := range f.Values {
		if wanted(f, b, at, v, map[[2]int]bool{}) {
			out = append(out, v)
		}
	}
	return out
}

func TestByWords(t *testing.T) { // W1, W2
	for seed := range 200 {
		for _, f := range samples.Unit(seed).Flows {
			live, all, reach := flow.Live(f), flow.All(f), flow.Reach(f)
			if len(live) != len(f.Blocks) || len(all) != len(f.Blocks) || len(reach) != len(f.Blocks) {
				t.Fatal(seed)
			}
			come := map[int]bool{}
			var walk func(int)
			walk = func(b int) {
				if !come[b] {
					come[b] = true
					for _, to := range ir.Next(f.Blocks[b].Term) {
						walk(to)
					}
				}
			}
			walk(0)
			for b, x := range f.Blocks {
				if !slices.Equal(live[b], ahead(f, b, 0)) || reach[b] != come[b] {
					t.Error(seed, b, live[b])
				}
				after := flow.After(f, b)
				if len(after) != len(x.Ins)+1 || len(all[b]) != len(after) {
					t.Fatal(seed, b, len(after))
				}
				for i := range after {
					at := min(i+1, len(x.Ins))
					if !slices.Equal(after[i], ahead(f, b, at)) || !slices.Equal(all[b][i], after[i]) {
						t.Error(seed, b, i, after[i])
					}
				}
				for i := range after {
					for k := range after[i] {
						after[i][k] = -9
					}
				}
				if !slices.Equal(flow.After(f, b)[0], all[b][0]) {
					t.Error("shared")
				}
			}
		}
	}
}

func TestExample(t *testing.T) {
	f := api.Flow{Params: 1, Values: 2, Blocks: []api.Block{block(ret(1), ins{Kind: api.InsMove, D: 1})}}
	a := flow.After(f, 0)
	if l := flow.Live(f); len(l) != 1 || !slices.Equal(l[0], []int{0}) || len(a) != 2 || !slices.Equal(a[0], []int{1}) || !slices.Equal(a[1], []int{1}) {
		t.Error(l, a)
	}
	a[0] = append(a[0], 5)
	a[0][0] = 7
	if a[1][0] != 1 {
		t.Error("shared")
	}
}

func TestEdges(t *testing.T) { // W1, W2
	read := func(d int) ins { return ins{Kind: api.InsRead, D: d} }
	// Values may be beyond the function's own, kinds and ends may be none.
	f := api.Flow{Values: 0, Blocks: []api.Block{
		block(api.Term{Kind: 9, A: -5, To: 44}, read(49999), ins{Kind: 77, D: -3, A: -4}, ins{Kind: api.InsPrint, A: 49999, D: -8, B: -1}),
		block(api.Term{Kind: api.TermJump, To: 1, A: -1, Else: 99}),
		block(api.Term{Kind: api.TermIf, A: 3, To: 0, Else: 2}),
	}}
	if l := flow.Live(f); len(l) != 3 || len(l[0]) != 0 || len(l[1]) != 0 || !slices.Equal(l[2], []int{3}) || !slices.Equal(flow.Reach(f), []bool{true, false, false}) {
		t.Error(l, flow.Reach(f))
	}
	if a := flow.After(f, 0); len(a) != 4 || !slices.Equal(a[0], []int{49999}) || !slices.Equal(a[1], []int{49999}) || len(a[2])+len(a[3]) != 0 {
		t.Error(a)
	}
	if len(flow.After(f, -1))+len(flow.After(f, 3))+len(flow.After(f, 1<<62)) != 0 {
		t.Error("no such block")
	}
	if len(flow.Reach(api.Flow{}))+len(flow.Live(api.Flow{}))+len(flow.All(api.Flow{}))+len(flow.After(api.Flow{}, 0)) != 0 {
		t.Error("empty")
	}
	for i, b := range []api.Block{
		block(ret(50000)), block(ret(-1)), block(api.Term{Kind: api.TermTrap, A: -1}), block(api.Term{Kind: api.TermIf, A: 50000}), block(api.Term{Kind: api.TermJump, To: 2}), block(api.Term{Kind: api.TermJump, To: -1}), block(api.Term{Kind: api.TermIf, Else: 2}), block(api.Term{Kind: api.TermIf, To: -1}),
		block(ret(0), read(50000)), block(ret(0), read(-2)), block(ret(0), ins{Kind: api.InsPrint, A: -1}), block(ret(0), ins{Kind: api.InsStore, B: 50000}), block(ret(0), ins{Kind: api.InsCall, Args: []int{0, -1}}),
	} {
		g := api.Flow{Values: 60000, Blocks: []api.Block{block(ret(0)), b}}
		if len(flow.Reach(g))+len(flow.Live(g))+len(flow.After(g, 0))+len(flow.All(g)) != 0 {
			t.Error(i)
		}
	}
}

// TestUnwanted spoils a value that is not wanted at a block's beginning: what the unit does is the same.
func TestUnwanted(t *testing.T) { // W3
	for seed := range 300 {
		u := samples.Unit(seed)
		r := samples.New(seed)
		in := r.Input()
		before := irrun.Run(u, in, 1000)
		k := r.Below(len(u.Flows))
		f := &u.Flows[k]
		b := r.Below(len(f.Blocks))
		v := r.Below(f.Values)
		if slices.Contains(flow.Live(*f)[b], v) {
			continue
		}
		spoil := []ins{{Kind: api.InsNum, D: v, N: 987654321}}
		f.Blocks[b].Ins = append(spoil, f.Blocks[b].Ins...)
		if after := irrun.Run(u, in, 2000); !samples.Keeps(before, after) {
			t.Error(seed, before, after)
		}
	}
}

func TestMany(t *testing.T) {
	f := api.Flow{Values: 50000}
	for i := range 20000 {
		f.Blocks = append(f.Blocks, block(api.Term{Kind: api.TermIf, A: i % 3, To: (i + 1) % 20000, Else: i / 2}, ins{Kind: api.InsPrint, A: i % 7}, ins{Kind: api.InsMove, D: i + 7, A: 5}))
	}
	if l := flow.Live(f); len(l[0]) != 7 || len(flow.All(f)) != 20000 {
		t.Error(l[0])
	}
}
