package lines_test

import (
	"reflect"
	"testing"

	"counterproof/api"
	"counterproof/asm"
	"counterproof/blocks"
	"counterproof/check"
	"counterproof/compile"
	"counterproof/dead"
	"counterproof/emit"
	"counterproof/eval"
	"counterproof/flow"
	"counterproof/fold"
	"counterproof/instr"
	"counterproof/ir"
	"counterproof/irrun"
	"counterproof/lift"
	"counterproof/lower"
	"counterproof/mach"
	"counterproof/parse"
	"counterproof/regs"
	"counterproof/round"
	"counterproof/samples"
	"counterproof/tree"
)

// roomy is a copy in which each list has some elements behind its length.
func roomy(v reflect.Value) reflect.Value {
	switch v.Kind() {
	case reflect.Slice:
		n := v.Len()
		out := reflect.MakeSlice(v.Type(), n+3, n+3)
		for i := range n {
			out.Index(i).Set(roomy(v.Index(i)))
		}
		for i := n; i < n+3; i++ {
			junk(out.Index(i))
		}
		return out.Slice(0, n)
	case reflect.Struct:
		out := reflect.New(v.Type()).Elem()
		for i := range v.NumField() {
			out.Field(i).Set(roomy(v.Field(i)))
		}
		return out
	}
	return v
}

func junk(v reflect.Value) {
	switch v.Kind() {
	case reflect.Int:
		v.SetInt(-777)
	case reflect.String:
		v.SetString("junk")
	case reflect.Struct:
		for i := range v.NumField() {
			junk(v.Field(i))
		}
	}
}

// whole is a copy in which what is behind lists' lengths stands within them.
func whole(v reflect.Value) reflect.Value {
	switch v.Kind() {
	case reflect.Slice:
		all := v.Slice(0, v.Cap())
		out := reflect.MakeSlice(v.Type(), all.Len(), all.Len())
		for i := range all.Len() {
			out.Index(i).Set(whole(all.Index(i)))
		}
		return out
	case reflect.Struct:
		out := reflect.New(v.Type()).Elem()
		for i := range v.NumField() {
			out.Field(i).Set(whole(v.Field(i)))
		}
		return out
	}
	return v
}

// unwritten does something with a copy, and looks whether that was written into.
func unwritten[T any](t *testing.T, x T, do func(T)) {
	t.Helper()
	y := roomy(reflect.ValueOf(x)).Interface().(T)
	before := whole(reflect.ValueOf(y)).Interface()
	do(y)
	if !reflect.DeepEqual(before, whole(reflect.ValueOf(y)).Interface()) {
		t.Errorf("%T: written into", x)
	}
}

// apart looks whether no two lists in values share memory, spare room too.
func apart(t *testing.T, name string, values ...any) {
	t.Helper()
	seen := map[uintptr]bool{}
	var walk func(reflect.Value)
	walk = func(v reflect.Value) {
		switch v.Kind() {
		case reflect.Slice:
			all := v.Slice(0, v.Cap())
			for i := range all.Len() {
				at := all.Index(i).Addr().Pointer()
				if seen[at] {
					t.Error(name, "shared", v.Type())
					return
				}
				seen[at] = true
			}
			for i := range v.Len() {
				if k := v.Index(i).Kind(); k == reflect.Struct || k == reflect.Slice {
					walk(v.Index(i))
				}
			}
		case reflect.Struct:
			for i := range v.NumField() {
				walk(v.Field(i))
			}
		}
	}
	for _, x := range values {
		walk(reflect.ValueOf(x))
	}
}

func TestMemory(t *testing.T) { // R3
	for seed := range 60 {
		in := samples.New(seed).Input()
		unwritten(t, samples.Prog(seed), func(p api.Prog) { ofProg(t, p, in) })
		unwritten(t, samples.Unit(seed), func(u api.Unit) { ofUnit(t, u, in) })
		unwritten(t, samples.Code(seed), func(c api.Code) { ofCode(t, c, in) })
		unwritten(t, in, func(in []int) {
			eval.Run(samples.Prog(seed), in, 300)
			irrun.Run(samples.Unit(seed), in, 300)
			mach.Run(samples.Code(seed), in, 300)
			round.Agree(samples.Code(seed), samples.Code(seed+1), in, 300)
			r := api.Run{Out: in}
			apart(t, "seen", r, lift.Seen(r))
		})
	}
	c, p, d, _, _ := round.Trip("int a[2]; int main() { a[1] = 3; print(a[1]); }", 1)
	apart(t, "trip", c, p, d)
}

func ofProg(t *testing.T, p api.Prog, in []int) {
	text, _ := tree.Print(p)
	q, _, _ := parse.Parse(text)
	apart(t, "parse", p, q)
	tree.Right(p)
	tree.Same(p, q)
	tree.Size(p)
	check.Check(p)
	eval.Run(p, in, 500)
	compile.Line(p, 0, 1)
	u, _ := lower.Lower(p)
	apart(t, "lower", p, u)
	for level := range 3 {
		c, _, _ := compile.Tree(p, level)
		apart(t, "tree", p, c)
	}
}

func ofUnit(t *testing.T, u api.Unit, in []int) {
	ir.Check(u)
	ir.Print(u)
	irrun.Run(u, in, 500)
	f, _ := fold.Fold(u)
	d, _ := dead.Dead(u)
	c, _ := emit.Emit(u, 3)
	apart(t, "passes", u, f, d, c)
	for _, g := range u.Flows {
		apart(t, "flow", g, flow.Live(g), flow.All(g), flow.After(g, 0), flow.Reach(g), regs.Alloc(g, 3), regs.Alloc(g, 3))
		regs.Fits(g, regs.Alloc(g, 2))
		emit.Frame(g, 3)
		for _, b := range g.Blocks {
			for _, x := range b.Ins {
				apart(t, "uses", x, ir.Uses(x), ir.Uses(x))
			}
			apart(t, "next", ir.Next(b.Term), ir.Next(b.Term))
		}
	}
}

func ofCode(t *testing.T, c api.Code, in []int) {
	text, _ := asm.Print(c)
	d, _, _ := asm.Parse(text)
	code, to := asm.Flat(c)
	apart(t, "asm", c, d, code, to)
	for _, x := range code {
		apart(t, "reads", instr.Reads(x), instr.Reads(x))
	}
	mach.Run(c, in, 300)
	mach.Where(c, mach.Addr(c, "a0"))
	apart(t, "blocks", c, blocks.Split(c), blocks.Next(c), blocks.Landings(c))
	p, _ := lift.Lift(c)
	again, _ := round.Again(c, 1)
	apart(t, "lift", c, p, again)
}
