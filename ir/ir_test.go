package ir_test

import (
	"slices"
	"strconv"
	"strings"
	"testing"

	"counterproof/api"
	"counterproof/ir"
	"counterproof/samples"
)

type ins = api.Ins

// has tells what each kind has: D, A, B, N, 1 and 2 for operators, a for an array's name, f for a function's.
var has = []string{"", "DN", "DA", "DA1", "DAB2", "DAa", "ABa", "D", "A", "Df"}

func unit(f ...api.Flow) api.Unit {
	return api.Unit{Arrays: []api.Array{{Name: "a", Size: 1}}, Flows: f}
}

func ret() api.Term { return api.Term{Kind: api.TermReturn} }

func flow(name string, params, values int, b ...api.Block) api.Flow {
	return api.Flow{Name: name, Params: params, Values: values, Blocks: b}
}

func plain() api.Flow { return flow("main", 0, 3, api.Block{Term: ret()}) }

// holds is a unit whose function 1, block 1, has one instruction.
func holds(x ins, t api.Term) api.Unit {
	return unit(plain(), flow("f", 2, 4, api.Block{Term: ret()}, api.Block{Ins: []ins{x}, Term: t}, api.Block{Term: ret()}))
}

func good(kind int) ins {
	x := ins{Kind: kind}
	for _, c := range has[kind] {
		switch c {
		case 'D':
			x.D = 3
		case 'A':
			x.A = 2
		case 'B':
			x.B = 1
		case 'N':
			x.N = -7
		case '1':
			x.Op = api.OpNot
		case '2':
			x.Op = api.OpLe
		case 'a':
			x.Name = "a"
		case 'f':
			x.Name, x.Args = "f", []int{3, 0}
		}
	}
	return x
}

func TestUsesSetsNextPlace(t *testing.T) { // F1
	for kind, want := range [][]int{{-1}, {3}, {3, 2}, {3, 2}, {3, 2, 1}, {3, 2}, {-1, 2, 1}, {3}, {-1, 2}, {3, 3, 0}} {
		x := good(kind)
		if kind == 0 {
			x = ins{D: 1, A: 1, B: 1, Args: []int{1}}
		}
		if ir.Sets(x) != want[0] || !slices.Equal(ir.Uses(x), want[1:]) {
			t.Error(kind, ir.Sets(x), ir.Uses(x))
		}
	}
	full := ins{D: 5, A: 6, B: 7, Args: []int{8, 8}}
	for kind, n := range []int{0, 0, 1, 1, 2, 1, 2, 0, 1, 2, 0} {
		full.Kind = kind
		if len(ir.Uses(full)) != n {
			t.Error(kind, ir.Uses(full))
		}
	}
	for _, kind := range []int{-1, 10, 1 << 60} {
		if x := (ins{Kind: kind, D: 4, A: 1, Args: []int{2}}); ir.Sets(x) != -1 || len(ir.Uses(x)) != 0 {
			t.Error(kind)
		}
	}
	for i, x := range []struct {
		t    api.Term
		want []int
	}{{api.Term{Kind: 1, To: 4}, []int{4}}, {api.Term{Kind: 1, To: 4, Else: 5}, []int{4}}, {api.Term{Kind: 2, To: 4, Else: 1}, []int{4, 1}}, {api.Term{Kind: 2, To: 4, Else: 4}, []int{4}}, {api.Term{Kind: 3, To: 1}, nil}, {api.Term{Kind: 4, To: 1}, nil}, {api.Term{To: 1}, nil}, {api.Term{Kind: 5, To: 1}, nil}} {
		if got := ir.Next(x.t); !slices.Equal(got, x.want) {
			t.Error(i, got)
		}
	}
	args := []int{1, 2}
	uses := ir.Uses(ins{Kind: api.InsCall, Args: args})
	uses[0] = 9
	u := unit(plain(), flow("f", 0, 0), flow("f", 1, 0))
	if args[0] != 1 || ir.Place(u, "f") != 1 || ir.Place(u, "main") != 0 || ir.Place(u, "a") != -1 || ir.Place(api.Unit{}, "") != -1 {
		t.Error("place")
	}
}

func TestCheckHeads(t *testing.T) { // F2
	b := api.Block{Term: ret()}
	wide := flow("f", 0, 1, slices.Repeat([]api.Block{b}, 20000)...)
	wider := flow("f", 0, 1, slices.Repeat([]api.Block{b}, 20001)...)
	long := flow("f", 0, 1, api.Block{Ins: slices.Repeat([]ins{{Kind: api.InsRead}}, 199999), Term: ret()}, api.Block{Ins: []ins{{Kind: api.InsRead}}, Term: ret()})
	longer := flow("f", 0, 1, api.Block{Ins: slices.Repeat([]ins{{Kind: api.InsRead}}, 200000), Term: ret()}, api.Block{Ins: []ins{{Kind: api.InsRead}}, Term: ret()})
	odd := func(a ...api.Array) api.Unit { return api.Unit{Arrays: a, Flows: []api.Flow{plain()}} }
	for i, x := range []struct {
		u   api.Unit
		err api.Errno
		at  [2]int
	}{
		{unit(plain()), api.OK, [2]int{}}, {api.Unit{}, api.ErrArg, [2]int{}}, {unit(), api.ErrArg, [2]int{}}, {unit(flow("f", 0, 1, b)), api.ErrArg, [2]int{}}, {unit(plain(), flow("f.", 0, 1, b)), api.ErrArg, [2]int{}}, {unit(plain(), flow("int", 0, 1, b)), api.ErrArg, [2]int{}},
		{odd(api.Array{Name: "a", Size: 0}), api.ErrArg, [2]int{}}, {odd(api.Array{Name: "a", Size: 1<<20 + 1}), api.ErrArg, [2]int{}}, {odd(api.Array{Name: "a", Size: 1 << 20}), api.OK, [2]int{}}, {odd(api.Array{Name: "1", Size: 1}), api.ErrArg, [2]int{}}, {odd(api.Array{Name: "b", Size: 1}, api.Array{Name: "b", Size: 1}), api.ErrArg, [2]int{}}, {odd(api.Array{Name: "main", Size: 1}), api.ErrArg, [2]int{}},
		{unit(plain(), plain()), api.ErrArg, [2]int{}}, {unit(flow("main", 1, 1, b)), api.ErrArg, [2]int{}}, {unit(flow("main", -1, 1, b)), api.ErrFlow, [2]int{}}, {unit(plain(), flow("f", 7, 9, b)), api.ErrFlow, [2]int{1, 0}}, {unit(plain(), flow("f", 6, 6, b)), api.OK, [2]int{}}, {unit(plain(), flow("f", 2, 1, b)), api.ErrFlow, [2]int{1, 0}}, {unit(plain(), flow("f", -1, 1, b)), api.ErrFlow, [2]int{1, 0}},
		{unit(plain(), flow("f", 0, 50000, b)), api.OK, [2]int{}}, {unit(plain(), flow("f", 0, 50001, b)), api.ErrFlow, [2]int{1, 0}}, {unit(plain(), flow("f", 0, 1)), api.ErrFlow, [2]int{1, 0}}, {unit(plain(), wide), api.OK, [2]int{}}, {unit(plain(), wider), api.ErrFlow, [2]int{1, 0}}, {unit(plain(), long), api.OK, [2]int{}}, {unit(plain(), longer), api.ErrFlow, [2]int{1, 0}},
		{unit(plain(), flow("g", 0, 1, api.Block{}), flow("f", 7, 1)), api.ErrFlow, [2]int{1, 0}}, {unit(flow("main", 0, 0, b)), api.ErrFlow, [2]int{}},
	} {
		err, at := ir.Check(x.u)
		if err != x.err || at != x.at {
			t.Error(i, err, at)
		}
		s, err := ir.Print(x.u)
		if (err == api.OK) != (x.err == api.OK) || err != api.OK && (err != api.ErrArg || s != "") {
			t.Error(i, err)
		}
	}
}

func TestCheckInstructions(t *testing.T) { // F2
	bad := [2]int{1, 1}
	for kind := 1; kind <= 9; kind++ {
		x := good(kind)
		if err, _ := ir.Check(holds(x, ret())); err != api.OK {
			t.Error(kind, err)
		}
		for i, c := range []struct {
			has    string
			change func(*ins)
		}{
			{"", func(x *ins) { x.Kind = 0 }}, {"", func(x *ins) { x.Kind = 10 }}, {"", func(x *ins) { x.Kind = -4 }},
			{"", func(x *ins) { x.D = 4 }}, {"", func(x *ins) { x.D = -1 }}, {"", func(x *ins) { x.A = 4 }}, {"", func(x *ins) { x.A = -1 }}, {"", func(x *ins) { x.B = 4 }}, {"", func(x *ins) { x.B = -1 }},
			{"D", func(x *ins) { x.D = 1 }}, {"A", func(x *ins) { x.A = 1 }}, {"B", func(x *ins) { x.B = 2 }}, {"N", func(x *ins) { x.N = 1 << 62 }}, {"1", func(x *ins) { x.Op = api.OpNeg }}, {"2", func(x *ins) { x.Op = api.OpAdd }}, {"", func(x *ins) { x.Op = 20 }}, {"", func(x *ins) { x.Op = -1 }},
			{"a", func(x *ins) { x.Name, x.Args = "a", nil }}, {"f", func(x *ins) { x.Name, x.Args = "f", []int{1, 1} }}, {"", func(x *ins) { x.Name = "none" }}, {"", func(x *ins) { x.Args = []int{1, 2, 3} }}, {"", func(x *ins) { x.Args = []int{4, 1} }}, {"", func(x *ins) { x.Args = []int{-1, 1} }}, {"", func(x *ins) { x.Args = []int{1} }},
		} {
			y := x
			c.change(&y)
			want := api.ErrFlow
			if c.has != "" && strings.Contains(has[kind], c.has) {
				want = api.OK
			}
			err, at := ir.Check(holds(y, ret()))
			if err != want || err != api.OK && at != bad {
				t.Error(kind, i, err, at)
			}
		}
	}
}

func TestCheckEnds(t *testing.T) { // F2
	x := good(api.InsRead)
	for i, c := range []struct {
		t  api.Term
		ok bool
	}{
		{api.Term{Kind: 1, To: 2}, true}, {api.Term{Kind: 1, To: 3}, false}, {api.Term{Kind: 1, To: -1}, false}, {api.Term{Kind: 1, A: 1}, false}, {api.Term{Kind: 1, Else: 1}, false},
		{api.Term{Kind: 2, A: 3, To: 2, Else: 2}, true}, {api.Term{Kind: 2, A: 4, To: 2}, false}, {api.Term{Kind: 2, A: -1, To: 2}, false}, {api.Term{Kind: 2, To: 3}, false}, {api.Term{Kind: 2, Else: 3}, false}, {api.Term{Kind: 2, Else: -1}, false},
		{api.Term{Kind: 3, A: 3}, true}, {api.Term{Kind: 3, A: 4}, false}, {api.Term{Kind: 3, A: -1}, false}, {api.Term{Kind: 3, To: 1}, false}, {api.Term{Kind: 3, Else: 1}, false},
		{api.Term{Kind: 4, A: 3}, true}, {api.Term{Kind: 4, A: 4}, false}, {api.Term{Kind: 4, To: 1}, false}, {api.Term{Kind: 4, Else: 1}, false}, {api.Term{}, false}, {api.Term{Kind: 5}, false}, {api.Term{Kind: -1}, false},
	} {
		err, at := ir.Check(holds(x, c.t))
		if (err == api.OK) != c.ok || !c.ok && (err != api.ErrFlow || at != [2]int{1, 1}) {
			t.Error(i, err, at)
		}
	}
}

func TestPrint(t *testing.T) { // F3
	var list []ins
	for kind := 1; kind <= 9; kind++ {
		list = append(list, good(kind))
	}
	u := unit(flow("main", 0, 4, api.Block{Ins: list, Term: api.Term{Kind: 1, To: 1}}, api.Block{Term: api.Term{Kind: 2, A: 3, To: 1, Else: 2}}, api.Block{Term: api.Term{Kind: 3, A: 1}}, api.Block{Term: api.Term{Kind: 4, A: 2}}), flow("f", 2, 2, api.Block{Ins: []ins{{Kind: api.InsCall, Name: "g"}}, Term: ret()}), flow("g", 0, 1, api.Block{Term: ret()}))
	want := "array a 1\nfunc main 0 4\nb0:\n\tv3 = -7\n\tv3 = v2\n\tv3 = ! v2\n\tv3 = v2 <= v1\n\tv3 = a[v2]\n\ta[v2] = v1\n\tv3 = read\n\tprint v2\n\tv3 = f(v3, v0)\n\tjump b1\nb1:\n\tif v3 b1 b2\nb2:\n\treturn v1\nb3:\n\ttrap v2\nfunc f 2 2\nb0:\n\tv0 = g()\n\treturn v0\nfunc g 0 1\nb0:\n\treturn v0\n"
	if got, err := ir.Print(u); got != want || err != api.OK {
		t.Errorf("%s %d", got, err)
	}
}

func TestTheorem(t *testing.T) { // F4
	texts := map[string]int{}
	for seed := range 500 {
		u := samples.Unit(seed)
		if err, at := ir.Check(u); err != api.OK || at != [2]int{} {
			t.Fatal(seed, err, at)
		}
		s, _ := ir.Print(u)
		if other, ok := texts[s]; ok {
			t.Error(seed, other)
		}
		texts[s] = seed
		for _, f := range u.Flows {
			for _, b := range f.Blocks {
				for _, x := range b.Ins {
					named(t, f, u, x)
				}
			}
		}
	}
}

// named checks that what an instruction uses and sets is what its text names.
func named(t *testing.T, f api.Flow, u api.Unit, x ins) {
	t.Helper()
	alone := api.Unit{Arrays: u.Arrays, Flows: []api.Flow{plain()}}
	f.Name, f.Blocks = "odd", []api.Block{{Ins: []ins{x}, Term: ret()}}
	for _, g := range u.Flows {
		if g.Name != "main" {
			alone.Flows = append(alone.Flows, flow(g.Name, g.Params, g.Params+1, api.Block{Term: ret()}))
		}
	}
	alone.Flows = append(alone.Flows, f)
	text, err := ir.Print(alone)
	if err != api.OK {
		t.Fatal(err, x)
	}
	lines := strings.Split(text, "\n")
	line := lines[len(lines)-3]
	var names, told []string
	for _, v := range append(ir.Uses(x), ir.Sets(x)) {
		if v >= 0 {
			names = append(names, "v"+strconv.Itoa(v))
		}
	}
	for _, w := range strings.FieldsFunc(line, func(r rune) bool { return !(r >= '0' && r <= '9' || r >= 'a' && r <= 'z') }) {
		if w[0] == 'v' {
			told = append(told, w)
		}
	}
	slices.Sort(names)
	slices.Sort(told)
	if !slices.Equal(names, told) {
		t.Error(line, names)
	}
}
