package regs_test

import (
	"slices"
	"testing"

	"counterproof/api"
	"counterproof/flow"
	"counterproof/ir"
	"counterproof/irrun"
	"counterproof/lower"
	"counterproof/regs"
	"counterproof/samples"
)

type ins = api.Ins

func block(t api.Term, list ...ins) api.Block { return api.Block{Ins: list, Term: t} }

func ret(a int) api.Term { return api.Term{Kind: api.TermReturn, A: a} }

func two(d, a, b int) ins { return ins{Kind: api.InsTwo, Op: api.OpAdd, D: d, A: a, B: b} }

// byWords are the pairs of values that meet, as the words tell it.
func byWords(f api.Flow) map[[2]int]bool {
	out := map[[2]int]bool{}
	all := func(list []int) {
		for _, a := range list {
			for _, b := range list {
				if a != b {
					out[[2]int{a, b}] = true
				}
			}
		}
	}
	live := flow.Live(f)
	for i, b := range f.Blocks {
		all(live[i])
		after := flow.After(f, i)
		for k, x := range b.Ins {
			all(after[k]) // ahead of the next instruction, or the end
			if d := ir.Sets(x); d >= 0 {
				for _, v := range after[k] {
					if v != d {
						out[[2]int{d, v}], out[[2]int{v, d}] = true, true
					}
				}
			}
		}
	}
	for a := range min(f.Params, f.Values) {
		for b := range min(f.Params, f.Values) {
			if a != b && len(f.Blocks) > 0 && (slices.Contains(live[0], a) || slices.Contains(live[0], b)) {
				out[[2]int{a, b}] = true
			}
		}
	}
	return out
}

func fits(f api.Flow, places []int) bool {
	for p := range byWords(f) {
		if places[p[0]] == places[p[1]] {
			return false
		}
	}
	return true
}

func TestFitsByWords(t *testing.T) { // G1, G2, G4
	for seed := range 300 {
		r := samples.New(seed)
		for _, f := range samples.Unit(seed).Flows {
			for _, n := range []int{0, 1, 2, 3, 18, 32} {
				places := regs.Alloc(f, n)
				if len(places) != f.Values || !regs.Fits(f, places) || !fits(f, places) || regs.Slots(places) > f.Values {
					t.Fatal(seed, n, places)
				}
				for _, p := range places {
					if p >= n {
						t.Error(seed, n, places)
					}
				}
				if !slices.Equal(places, regs.Alloc(f, n)) {
					t.Error(seed)
				}
			}
			for range 20 {
				places := make([]int, f.Values)
				for i := range places {
					places[i] = r.Below(2*f.Values) - f.Values
				}
				if regs.Fits(f, places) != fits(f, places) {
					t.Error(seed, places)
				}
			}
			// Each pair that meets is told, one by one.
			for a := range f.Values {
				for b := range a {
					places := make([]int, f.Values)
					for i := range places {
						places[i] = -i - 1
					}
					places[a] = places[b]
					if regs.Fits(f, places) == byWords(f)[[2]int{a, b}] {
						t.Error(seed, a, b)
					}
				}
			}
		}
	}
}

func TestExample(t *testing.T) {
	f := api.Flow{Params: 1, Values: 2, Blocks: []api.Block{block(ret(1), two(1, 0, 0))}}
	if !regs.Fits(f, []int{0, 0}) || !regs.Fits(f, []int{-1, -1}) || !regs.Fits(f, regs.Alloc(f, 1)) {
		t.Error(regs.Alloc(f, 1))
	}
}

func TestFits(t *testing.T) { // G1
	f := api.Flow{Params: 2, Values: 3, Blocks: []api.Block{block(ret(2), two(2, 0, 1))}}
	for i, c := range []struct {
		places []int
		want   bool
	}{{[]int{0, 1, 0}, true}, {[]int{0, 1, 1}, true}, {[]int{0, 0, 1}, false}, {[]int{-1, 0, -1}, true}, {[]int{1 << 62, -1 << 63, 5}, true}, {[]int{0, 1}, false}, {[]int{0, 1, 2, 3}, false}, {nil, false}} {
		if regs.Fits(f, c.places) != c.want {
			t.Error(i)
		}
	}
	// Params keep apart, if one of them is wanted; two that nobody wants need not.
	g := api.Flow{Params: 3, Values: 3, Blocks: []api.Block{block(ret(0))}}
	if regs.Fits(g, []int{0, 0, 1}) || regs.Fits(g, []int{0, 1, 0}) || !regs.Fits(g, []int{0, 1, 1}) {
		t.Error("params")
	}
	// A block that is not come to counts as well.
	h := api.Flow{Values: 2, Blocks: []api.Block{block(ret(0)), block(api.Term{Kind: api.TermJump, To: 1}, two(0, 0, 1), two(1, 1, 0))}}
	if regs.Fits(h, []int{0, 0}) || !regs.Fits(h, []int{0, 1}) {
		t.Error("not come to")
	}
	// What is set meets what is wanted behind, even if nobody wants it.
	k := api.Flow{Values: 2, Blocks: []api.Block{block(ret(0), ins{Kind: api.InsRead, D: 1})}}
	if regs.Fits(k, []int{0, 0}) {
		t.Error("set")
	}
	if !regs.Fits(api.Flow{}, nil) || !regs.Fits(api.Flow{Values: 2, Params: 2}, []int{0, 0}) {
		t.Error("no blocks")
	}
}

func TestWrong(t *testing.T) { // G1, G2
	ok := api.Flow{Values: 1, Blocks: []api.Block{block(ret(0))}}
	for i, f := range []api.Flow{
		{Values: -1}, {Values: 50001}, {Values: 1, Blocks: []api.Block{block(ret(1))}}, {Values: 1, Blocks: []api.Block{block(ret(-1))}}, {Values: 0, Blocks: []api.Block{block(ret(0))}}, {Values: 1, Blocks: []api.Block{block(ret(0), two(1, 0, 0))}}, {Values: 1, Blocks: []api.Block{block(ret(0), two(0, 0, 1))}}, {Values: 1, Blocks: []api.Block{block(api.Term{Kind: api.TermJump, To: 1})}},
		{Values: 1, Blocks: []api.Block{block(ret(0)), block(ret(0), ins{Kind: api.InsRead, D: 3})}}, {Values: 1, Blocks: []api.Block{block(ret(0), ins{Kind: api.InsRead, D: -2})}},
	} {
		if a := regs.Alloc(f, 3); len(a) != 0 || regs.Fits(f, make([]int, max(0, min(f.Values, 60000)))) {
			t.Error(i, a)
		}
	}
	// An end's A is a place, unless it is a jump's.
	for kind, want := range []int{1, 1, 0, 0, 0, 1} {
		f := api.Flow{Values: 1, Blocks: []api.Block{block(api.Term{Kind: kind, A: 1})}}
		if a := regs.Alloc(f, 3); len(a) != want || regs.Fits(f, []int{0}) != (want == 1) {
			t.Error(kind, a)
		}
	}
	for _, n := range []int{-1, 33, 1 << 62, -1 << 63} {
		if len(regs.Alloc(ok, n)) != 0 {
			t.Error(n)
		}
	}
	if len(regs.Alloc(ok, 32)) != 1 || len(regs.Alloc(api.Flow{Values: 50000}, 2)) != 50000 {
		t.Error("limits")
	}
	for _, p := range []int{-5, 7, 1 << 40} {
		f := ok
		f.Params = p
		if len(regs.Alloc(f, 2)) != 1 {
			t.Error(p)
		}
	}
}

func TestSlots(t *testing.T) { // G1
	if regs.Slots(nil) != 0 || regs.Slots([]int{3, 0}) != 0 || regs.Slots([]int{-1}) != 1 || regs.Slots([]int{2, -7, -3}) != 7 {
		t.Error("slots")
	}
}

// kept is a unit whose values have the numbers of their places.
func kept(u api.Unit, registers int) api.Unit {
	out := api.Unit{Arrays: u.Arrays}
	for _, f := range u.Flows {
		places := regs.Alloc(f, registers)
		v := func(i int) int {
			if places[i] >= 0 {
				return places[i]
			}
			return registers - places[i] - 1
		}
		temps := max(registers+regs.Slots(places), f.Params)
		var start []ins
		for p := range f.Params {
			start = append(start, ins{Kind: api.InsMove, D: temps + p, A: p}, ins{Kind: api.InsNum, D: p})
		}
		for p := range f.Params {
			start = append(start, ins{Kind: api.InsMove, D: v(p), A: temps + p})
		}
		g := api.Flow{Name: f.Name, Params: f.Params, Values: temps + f.Params + 1, Blocks: []api.Block{block(api.Term{Kind: api.TermJump, To: 1}, start...)}}
		for _, b := range f.Blocks {
			var list []ins
			for _, x := range b.Ins {
				if ir.Sets(x) >= 0 {
					x.D = v(x.D)
				}
				n := len(ir.Uses(x))
				if x.Kind != api.InsCall && n > 0 {
					x.A = v(x.A)
				}
				if x.Kind != api.InsCall && n > 1 {
					x.B = v(x.B)
				}
				x.Args = slices.Clone(x.Args)
				for i := range x.Args {
					x.Args[i] = v(x.Args[i])
				}
				list = append(list, x)
			}
			e := b.Term
			if e.Kind == api.TermJump || e.Kind == api.TermIf {
				e.To++
			}
			if e.Kind == api.TermIf {
				e.Else++
			}
			if e.Kind != api.TermJump {
				e.A = v(e.A)
			}
			g.Blocks = append(g.Blocks, block(e, list...))
		}
		out.Flows = append(out.Flows, g)
	}
	return out
}

func TestTheorem(t *testing.T) { // G3
	for seed := range 400 {
		u := samples.Unit(seed)
		if seed%2 == 0 {
			u, _ = lower.Lower(samples.Prog(seed))
		}
		in := samples.New(seed).Input()
		for _, n := range []int{0, 1, 2, 5, 18} {
			k := kept(u, n)
			if err, at := ir.Check(k); err != api.OK {
				t.Fatal(seed, n, err, at)
			}
			for _, steps := range []int{10, 100, 1000} {
				a, b := irrun.Run(u, in, steps), irrun.Run(k, in, 20*steps+50)
				if !samples.Keeps(a, b) {
					t.Error(seed, n, steps, a, b)
				}
			}
		}
	}
}

func TestMany(t *testing.T) {
	f := api.Flow{Values: 900}
	var list []ins
	for i := range 900 {
		list = append(list, ins{Kind: api.InsRead, D: i})
	}
	for i := range 900 {
		list = append(list, ins{Kind: api.InsPrint, A: i})
	}
	f.Blocks = []api.Block{block(ret(0), list...)}
	if p := regs.Alloc(f, 18); regs.Slots(p) < 900-18 || regs.Slots(p) > 900 || !regs.Fits(f, p) {
		t.Error(regs.Slots(p))
	}
}
