package asm_test

import (
	"slices"
	"strings"
	"testing"

	"counterproof/api"
	"counterproof/asm"
	"counterproof/samples"
)

func label(s string) api.Line           { return api.Line{Label: s} }
func in(op int, name string) api.Line   { return api.Line{In: api.Instr{Op: op, Name: name}} }
func code(lines ...api.Line) api.Code   { return api.Code{Lines: lines} }
func array(name string, n int) api.Code { return api.Code{Arrays: []api.Array{{Name: name, Size: n}}} }

func TestCheck(t *testing.T) { // S1
	ret := in(api.InRet, "")
	bad := api.Line{In: api.Instr{Op: api.InRet, D: 1}}
	two := func(c api.Code, a, b string) api.Code {
		c.Arrays = []api.Array{{Name: a, Size: 1}, {Name: b, Size: 2}}
		return c
	}
	for i, x := range []struct {
		c   api.Code
		err api.Errno
		at  int
	}{
		{api.Code{}, api.OK, 0}, {code(ret, label("a"), ret), api.OK, 0}, {code(in(api.InJ, "b"), label("a"), label("b")), api.OK, 0},
		{code(slices.Repeat([]api.Line{ret}, 40000)...), api.OK, 0}, {code(slices.Repeat([]api.Line{ret}, 40001)...), api.ErrArg, 0}, {code(slices.Repeat([]api.Line{bad}, 40001)...), api.ErrArg, 0},
		{array("a.1", 1<<20), api.OK, 0}, {array("a", 0), api.ErrArg, 0}, {array("a", 1<<20+1), api.ErrArg, 0}, {array("", 1), api.ErrArg, 0}, {array("1", 1), api.ErrArg, 0}, {array(strings.Repeat("a", 41), 1), api.ErrArg, 0},
		{two(code(bad), "a", "a"), api.ErrLabel, 0}, {two(code(bad), "a", "-"), api.ErrArg, 0}, {two(code(), "a", "b"), api.OK, 0},
		{code(ret, bad), api.ErrAsm, 1}, {code(api.Line{}), api.ErrAsm, 0}, {code(ret, label("1")), api.ErrAsm, 1}, {code(ret, ret, label("a b")), api.ErrAsm, 2}, {code(api.Line{Label: "a", In: ret.In}), api.ErrAsm, 0},
		{code(label("a"), ret, label("a")), api.ErrLabel, 2}, {code(label("a"), label("a"), bad), api.ErrLabel, 1}, {code(label("a"), bad, label("a")), api.ErrAsm, 1},
		{code(ret, in(api.InJ, "b")), api.ErrLabel, 1}, {code(ret, in(api.InLa, "b"), label("b")), api.ErrLabel, 1}, {two(code(in(api.InLa, "b")), "a", "b"), api.OK, 0}, {two(code(in(api.InJ, "b")), "a", "b"), api.ErrLabel, 0},
		{two(code(in(api.InBeq, "a"), label("a"), in(api.InLa, "a")), "a", "b"), api.OK, 0}, {code(in(api.InJ, "")), api.ErrAsm, 0}, {code(label("b"), in(api.InJal, "a"), label("b")), api.ErrLabel, 1},
	} {
		if err, at := asm.Check(x.c); err != x.err || at != x.at {
			t.Error(i, err, at)
		}
		s, err := asm.Print(x.c)
		if (x.err == api.OK) != (err == api.OK) || err != api.OK && (s != "" || err != api.ErrArg) {
			t.Error(i, s, err)
		}
		if a, b := asm.Flat(x.c); x.err != api.OK && len(a)+len(b) > 0 {
			t.Error(i, a, b)
		}
	}
}

func TestPrint(t *testing.T) { // S2
	c := api.Code{Arrays: []api.Array{{Name: "a", Size: 3}, {Name: ".b", Size: 1 << 20}}, Lines: []api.Line{label("main"), in(api.InJ, "main"), label("x.1"), {In: api.Instr{Op: api.InLd, D: 5, A: 2, N: -8}}}}
	if s, err := asm.Print(c); s != ".array a 3\n.array .b 1048576\nmain:\n\tj main\nx.1:\n\tld x5, -8(x2)\n" || err != api.OK {
		t.Errorf("%q", s)
	}
	if s, err := asm.Print(api.Code{}); s != "" || err != api.OK {
		t.Error(s, err)
	}
}

func TestParse(t *testing.T) { // S3
	want := api.Code{Arrays: []api.Array{{Name: "a", Size: 3}, {Name: "b", Size: 1}}, Lines: []api.Line{label("main"), in(api.InJ, "main"), label(".array")}}
	got, err, line := asm.Parse("# code\n \t.array a 3#\n\n.array b 1 \t\n main: # here\n\t\tj main\n.array:")
	if err != api.OK || line != 0 || !asm.Same(got, want) {
		t.Error(got, err, line)
	}
	for text, want := range map[string]int{
		"x": 1, "\n\nnop": 3, "ret\n.array a 1": 2, "a:\n.array a 1": 2, ".array a 0": 1, ".array a 1048577": 1, ".array a 01": 1, ".array a +1": 1, ".array a": 1, ".array  a 1": 1, ".array a  1": 1, ".array a 1 1": 1, ".array\ta 1": 1, ".array 1a 1": 1, ".array a -1": 1, ".array a 99999999999999999999": 1,
		"a :": 1, ":": 1, "1:": 1, "a:ret": 1, "a: ret": 1, "ret\r": 1, "ret\nret;": 2, "j a b": 1, strings.Repeat("a", 41) + ":": 1, "j x\n?": 2, "\xff": 1, "\v": 1,
	} {
		c, err, line := asm.Parse(text)
		if err != api.ErrAsm || line != want || !asm.Same(c, api.Code{}) {
			t.Errorf("%q: %d %d", text, err, line)
		}
	}
	for _, x := range []struct {
		text string
		err  api.Errno
		line int
	}{
		{"# none\n\n j x", api.ErrLabel, 3}, {"#\n.array a 1\n.array a 2\nj x", api.ErrLabel, 1}, {"a:\n\nret\n#\na:", api.ErrLabel, 5}, {"\n\nla x5, a\na:", api.ErrLabel, 3}, {strings.Repeat("ret\n", 40001), api.ErrArg, 1}, {strings.Repeat("ret\n", 40001) + "?", api.ErrAsm, 40002}, {strings.Repeat("ret\n", 40000), api.OK, 0},
		{strings.Repeat(" ", 400000), api.OK, 0}, {strings.Repeat(" ", 400001), api.ErrArg, 0}, {strings.Repeat("?", 400001), api.ErrArg, 0}, {"", api.OK, 0}, {".array a 1048576", api.OK, 0},
	} {
		if _, err, line := asm.Parse(x.text); err != x.err || line != x.line {
			t.Errorf("%.30q: %d %d", x.text, err, line)
		}
	}
}

func TestFlat(t *testing.T) { // S4
	for _, x := range []struct {
		text string
		n    int
		to   []int
	}{
		{"main:\n\tj main", 1, []int{0}}, {"j b\na:\nb:\nret\nbeq x1, x2, a\nbne x0, x0, c\nc:\nd:", 4, []int{3 - 2, -1, 1, 4}}, {".array a 1\nret\nb:\nla x5, a\njal b\necall\nli x1, 4", 5, []int{-1, -1, 1, -1, -1}}, {"a:\nb:", 0, nil}, {"", 0, nil},
	} {
		c, err, _ := asm.Parse(x.text)
		ins, to := asm.Flat(c)
		if err != api.OK || len(ins) != x.n || !slices.Equal(to, x.to) {
			t.Errorf("%q: %v %v", x.text, ins, to)
		}
		k := 0
		for _, l := range c.Lines {
			if l.Label == "" {
				if ins[k] != l.In {
					t.Error(x.text)
				}
				k++
			}
		}
	}
}

func TestSame(t *testing.T) { // S4
	a := samples.Code(3)
	b := samples.Code(3)
	if !asm.Same(a, b) || asm.Same(a, samples.Code(4)) || !asm.Same(api.Code{}, api.Code{Lines: []api.Line{}, Arrays: []api.Array{}}) {
		t.Error("same")
	}
	if asm.Same(array("a", 1), array("a", 2)) || asm.Same(array("a", 1), array("b", 1)) || asm.Same(code(label("a")), code(label("b"))) || asm.Same(code(in(1, "")), code(in(2, ""))) || asm.Same(code(label("a")), code()) || asm.Same(code(label("a"), label("b")), code(label("b"), label("a"))) {
		t.Error("not the same")
	}
}

func TestTheorem(t *testing.T) { // S5
	for seed := range 300 {
		c := samples.Code(seed)
		text, err := asm.Print(c)
		back, err2, line := asm.Parse(text)
		if err != api.OK || err2 != api.OK || line != 0 || !asm.Same(c, back) {
			t.Fatal(seed, err, err2, line)
		}
		loose := strings.ReplaceAll(text, "\n", " \t# note\n\n \t# more\n  ")
		if back, err, _ := asm.Parse(loose); err != api.OK || !asm.Same(c, back) {
			t.Error(seed, err)
		}
		ins, to := asm.Flat(c)
		k := 0
		at := map[string]int{}
		for _, l := range c.Lines {
			if l.Label != "" {
				at[l.Label] = k
			} else {
				k++
			}
		}
		for i, x := range ins {
			want, ok := at[x.Name]
			if !ok || x.Op == api.InLa {
				want = -1
			}
			if to[i] != want {
				t.Error(seed, i, to[i])
			}
		}
	}
}

func FuzzParse(f *testing.F) {
	f.Add(".array a 2\nmain:\n\tla x5, a\n\tld x6, 8(x5) # x\n\tj main\n")
	f.Fuzz(func(t *testing.T, s string) {
		c, err, line := asm.Parse(s)
		if err != api.OK {
			if !asm.Same(c, api.Code{}) || line < 0 || line > 1+strings.Count(s, "\n") {
				t.Error(err, line)
			}
			return
		}
		text, _ := asm.Print(c)
		if back, err, _ := asm.Parse(text); err != api.OK || !asm.Same(c, back) {
			t.Error(text)
		}
	})
}
