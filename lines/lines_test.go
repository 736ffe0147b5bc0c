package lines_test

import (
	"slices"
	"strconv"
	"strings"
	"testing"

	"counterproof/api"
	"counterproof/asm"
	"counterproof/blocks"
	"counterproof/compile"
	"counterproof/lift"
	"counterproof/lines"
	"counterproof/mach"
	"counterproof/round"
	"counterproof/samples"
	"counterproof/tree"
)

func told(t *testing.T, script string) string {
	t.Helper()
	s, err := lines.Run(script)
	if err != api.OK {
		t.Fatal(err)
	}
	return s
}

func TestLines(t *testing.T) { // Z1
	prog := "int main() { print(6 * 7); }"
	c, _, _ := compile.Compile(prog+"\n", 1)
	c0, _, _ := compile.Compile(prog+"\n", 0)
	c2, _, _ := compile.Compile(prog+"\n", 2)
	n, n0, n2 := strconv.Itoa(len(c.Lines)), strconv.Itoa(len(c0.Lines)), strconv.Itoa(len(c2.Lines))
	r := mach.Run(c, nil, 1000)
	steps := strconv.Itoa(r.Steps)
	p, _ := lift.Lift(c)
	text, _ := tree.Print(p)
	again, _ := round.Again(c, 1)
	flat, _ := asm.Flat(c)
	assembly, _ := asm.Print(c)
	for _, x := range []struct{ script, want string }{
		{"", ""}, {"\n", "odd\n"}, {"\n\n", "odd\nodd\n"}, {"+", ""}, {"+\n\n", "odd\n"},
		{"+" + prog + "\ncompile\nrun 100", n + "\n1 0 " + steps + " 42\n"},
		{"+" + prog + "\nlevel 0\ncompile\nlevel 3\nlevel -1\nlevel 1\ncompile\nlevel\nlevel 1 1\nlevel x", n0 + "\nerror 1\nerror 1\n" + n + "\nodd\nodd\nodd\n"},
		{"+" + prog + "\nprint\ncheck\neval 9\neval 100\neval 0\neval -1\neval 200000\neval 200001\neval\neval 1 1\neval a", "3\nok\n1 0 4 42\n1 0 4 42\n0 0 0\nerror 1\n1 0 4 42\nerror 1\nodd\nodd\nodd\n"},
		{"level 2\n+" + prog + "\ncompile\nlevel -2\nlevel 999999999999999999\ncompile", n2 + "\nerror 1\nerror 1\n" + n2 + "\n"},
		{"+int f() { int x; } int main() { int y; y = 1; if (y) { y = 2; } else { x = 3; } }\ncheck\ncompile", "error 51 10\nerror 51 10\n"},
		{"print\ncheck\ncompile\neval 5\nassemble\nblocks\nrun 5\nrun 200001\nrun -1\nrun 0", "0\nerror 54 1\nerror 54 1\n0 0 0\n0\n0 0\n6 0 0\nerror 1\nerror 1\n6 0 0\n"},
		{"+int main() {\n+", ""}, {"+int main() {\n+\nprint\ncheck\ncompile\neval 5\neval 200001", "error 40 3\nerror 40 3\nerror 40 3\nerror 40 3\nerror 40 3\n"},
		{"+int main() {\n+$\nprint", "error 20 2\n"}, {"+int a[0];\nprint\neval -5", "error 41 1\nerror 41 1\n"}, {"+int main() { x = 1; }\nprint\ncheck\ncompile\neval 9", "3\nerror 51 2\nerror 51 2\n0 0 0\n"},
		{"+int main() {\nnew\n+" + prog + "\nprint\nnew 1\nnew ", "3\nodd\nodd\n"},
		{"+int main() { print(read()); print(read()); }\nread 5 -7\neval 100\nread\neval 100\nread 1 2 3\neval 100\nread 0\nread -0\nread 01\nread  1\nread 1 \nread +1\nread 999999999999999999\nread -999999999999999999\nread 1000000000000000000\nread x\neval 100", "1 0 4 5 -7\n1 0 4 -1 -1\n1 0 4 1 2\nodd\nodd\nodd\nodd\nodd\nodd\nodd\n1 0 4 -999999999999999999 -1\n"},
		{"+\tli x17, 3\n+li x10, 7\n+ecall # end\nassemble\nrun 2\nrun 3\nblocks\nlift\nnew\n+ret\n+ret ret\nassemble\nrun 3", "3\n0 0 2\n1 7 3\n1 3\n" + strconv.Itoa(liftedSize("li x17, 3\nli x10, 7\necall")) + "\nerror 60 2\n1 7 3\n"},
		{"+j x\nassemble\nnew\n+\n+# x\n+j x\nassemble\nnew\n+.array a 1\n+.array a 1\nassemble", "error 61 1\nerror 61 3\nerror 61 1\n"},
		{"+" + prog + "\ncompile\nlift\nprint\nagain\nblocks\ncheck", n + "\n" + strconv.Itoa(len(text)) + "\n" + strconv.Itoa(strings.Count(text, "\n")) + "\n" + strconv.Itoa(len(again.Lines)) + "\n" + strconv.Itoa(len(blocks.Split(again))) + " " + strconv.Itoa(flatSize(again)) + "\nok\n"},
		{"+" + prog + "\ncompile\ncode\nblocks\nassemble\nrun 1000\nprint", n + "\n" + strconv.Itoa(len(blocks.Split(c))) + " " + strconv.Itoa(len(flat)) + "\n" + n + "\n1 0 " + steps + " 42\nerror 20 1\n"},
		{"+.array a 1048576\nassemble\nlift\nagain\nrun 5", "0\nerror 41\nerror 41\n6 0 0\n"},
		{"code\nassemble\n+x\ncode\nassemble", "0\n0\n"},
		{"lift\nprint\ncheck", strconv.Itoa(liftedSize("")) + "\n" + strconv.Itoa(liftedLines("")) + "\nok\n"},
		{"nope\nPrint\n print\nprint \nprint\t\nprint 1\ncompile 1\nagain 0\nlift 1\ncode 1\nblocks 1\ncheck x\nassemble ;\nrun\nrun 1 2\n-\n#\nread\r", strings.Repeat("odd\n", 18)},
	} {
		if got := told(t, x.script); got != x.want {
			t.Errorf("%q:\n%q\n%q", x.script, got, x.want)
		}
	}
	if first := strings.SplitN(assembly, "\n", 2)[0]; first != "\tjal f.main" {
		t.Error(first)
	}
}

func flatSize(c api.Code) int {
	code, _ := asm.Flat(c)
	return len(code)
}

func liftedText(text string) string {
	c, _, _ := asm.Parse(text)
	p, _ := lift.Lift(c)
	s, _ := tree.Print(p)
	return s
}

func liftedSize(text string) int { return len(liftedText(text)) }

func liftedLines(text string) int { return strings.Count(liftedText(text), "\n") }

func TestLimits(t *testing.T) { // Z1
	for i, x := range []struct {
		script string
		err    api.Errno
		want   string
	}{
		{strings.Repeat("x", 20000), api.OK, "odd\n"}, {strings.Repeat("x", 20001), api.ErrArg, ""}, {strings.Repeat("\n", 400), api.OK, strings.Repeat("odd\n", 400)}, {strings.Repeat("\n", 401), api.ErrArg, ""}, {strings.Repeat("\n", 400) + "x", api.ErrArg, ""}, {strings.Repeat("+\n", 400), api.OK, ""},
		{"+" + strings.Repeat(" ", 19980) + "\nprint", api.OK, "0\n"},
	} {
		if s, err := lines.Run(x.script); err != x.err || s != x.want {
			t.Error(i, err, len(s))
		}
	}
	// A text that has grown beyond what may be parsed has an error without a line.
	big := "+a:\n" + strings.Repeat("+beq x5, x6, a\n", 390) + "assemble\nlift\nprint\ncheck\ncompile\neval 1"
	got := strings.Split(told(t, big), "\n")
	if len(got) < 5 || got[2] != "error 1" || got[3] != "error 1" || got[4] != "error 1" || got[5] != "error 1" {
		t.Error(got)
	}
}

func script(seed int) string {
	r := samples.New(seed)
	looks := []string{"print", "check", "eval 500", "run 3000", "blocks"}
	var out []string
	text, _ := tree.Print(samples.Prog(seed % 40))
	if len(text) < 6000 && strings.Count(text, "\n") < 200 {
		for _, l := range strings.Split(text, "\n") {
			out = append(out, "+"+l)
		}
	}
	for range 14 {
		switch r.Below(9) {
		case 0:
			out = append(out, "level "+strconv.Itoa(r.Below(4)))
		case 1:
			out = append(out, "compile", "again")
		case 2:
			out = append(out, "read 3 -4 "+strconv.Itoa(r.Below(5)))
		case 3:
			out = append(out, []string{"code", "lift", "compile", "what"}[r.Below(4)])
		case 4:
			out = append(out, "compile")
		default:
			out = append(out, looks[r.Below(5)])
		}
	}
	return strings.Join(out, "\n")
}

func TestTheorem(t *testing.T) { // Z2
	for seed := range 60 {
		list := strings.Split(script(seed), "\n")
		whole := told(t, strings.Join(list, "\n"))
		if whole != told(t, strings.Join(list, "\n")+"\n") {
			t.Error(seed)
		}
		last := ""
		for i := range list {
			now := told(t, strings.Join(list[:i+1], "\n"))
			if !strings.HasPrefix(now, last) || !strings.HasPrefix(whole, now) {
				t.Error(seed, i)
			}
			word := strings.Split(list[i], " ")[0]
			if slices.Contains([]string{"print", "check", "eval", "run", "blocks"}, word) {
				without := append(slices.Clone(list[:i]), list[i+1:]...)
				if told(t, strings.Join(without, "\n")) != last+whole[len(now):] {
					t.Error(seed, i, list[i])
				}
			}
			last = now
		}
	}
	for seed := range 60 {
		text, _ := tree.Print(samples.Prog(seed))
		script := "+" + strings.ReplaceAll(strings.TrimSuffix(text, "\n"), "\n", "\n+")
		got, err := lines.Run(script + "\nread 1 2\ncompile\nrun 200000\neval 20000")
		if err != api.OK {
			continue
		}
		two := strings.Split(got, "\n")
		a, b := strings.Fields(two[1]), strings.Fields(two[2])
		if a[0] != "0" && b[0] != "0" && (a[0] != b[0] || a[1] != b[1] || !slices.Equal(a[3:], b[3:])) {
			t.Error(seed, got)
		}
	}
}

func FuzzRun(f *testing.F) {
	f.Add("+int main() { print(6 * 7); }\ncompile\nrun 100\nagain\nlift\nblocks\ncode\nassemble\nlevel 2\neval 3")
	f.Fuzz(func(t *testing.T, s string) {
		got, err := lines.Run(s)
		if again, _ := lines.Run(s); again != got || err != api.OK && got != "" {
			t.Error(got, err)
		}
	})
}
