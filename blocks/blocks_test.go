package blocks_test

import (
	"reflect"
	"slices"
	"strings"
	"testing"

	"counterproof/api"
	"counterproof/asm"
	"counterproof/blocks"
	"counterproof/mach"
	"counterproof/samples"
)

func get(t *testing.T, text string) api.Code {
	t.Helper()
	c, err, line := asm.Parse(strings.ReplaceAll(text, ";", "\n"))
	if err != api.OK {
		t.Fatal(text, err, line)
	}
	return c
}

func TestBlocks(t *testing.T) { // B1, B2, B3
	for _, x := range []struct {
		text     string
		split    [][2]int
		next     [][]int
		landings []int
	}{
		{"", nil, nil, nil},
		{"a: ; b:", nil, nil, nil},
		{"a: ; j a", [][2]int{{0, 1}}, [][]int{{0}}, nil},
		{"ecall; ecall", [][2]int{{0, 2}}, [][]int{{1}}, nil},
		{"j e; e:", [][2]int{{0, 1}}, [][]int{{1}}, nil},
		{"ret", [][2]int{{0, 1}}, [][]int{nil}, nil},
		{"ret; ecall", [][2]int{{0, 1}, {1, 2}}, [][]int{nil, {2}}, nil},
		{"li x5, 1; a: ; addi x5, x5, -1; bne x5, x0, a; ecall", [][2]int{{0, 1}, {1, 3}, {3, 4}}, [][]int{{1}, {1, 2}, {3}}, nil},
		{"a: ; beq x0, x0, b; b: ; blt x0, x0, a; bge x0, x0, c; c:", [][2]int{{0, 1}, {1, 2}, {2, 3}}, [][]int{{1}, {0, 2}, {3}}, nil},
		{"jal f; ecall; f: ; ret", [][2]int{{0, 1}, {1, 2}, {2, 3}}, [][]int{{2}, {2}, {1}}, []int{1}},
		{"f: ; ret; jal f; ret; jal f; jal f", [][2]int{{0, 1}, {1, 2}, {2, 3}, {3, 4}, {4, 5}}, [][]int{{2, 4, 5}, {0}, {2, 4, 5}, {0}, {0}}, []int{2, 4, 5}},
		{".array a 1; la x5, a; b: ; ecall; bne x1, x2, z; z: ; y: ; ecall", [][2]int{{0, 3}, {3, 4}}, [][]int{{1}, {2}}, nil},
	} {
		c := get(t, x.text)
		s, n, l := blocks.Split(c), blocks.Next(c), blocks.Landings(c)
		if !slices.Equal(s, x.split) || !slices.EqualFunc(n, x.next, slices.Equal) || !slices.Equal(l, x.landings) {
			t.Errorf("%q: %v %v %v", x.text, s, n, l)
		}
	}
	bad := api.Code{Lines: []api.Line{{In: api.Instr{Op: api.InJal, Name: "x"}}}}
	if len(blocks.Split(bad))+len(blocks.Next(bad))+len(blocks.Landings(bad)) != 0 {
		t.Error("not code")
	}
}

func TestNewMemory(t *testing.T) { // R3
	c := get(t, "f: ; ret; jal f; ret; jal f")
	n := blocks.Next(c)
	n[0][0] = 99
	if n[2][0] == 99 || !reflect.DeepEqual(blocks.Next(c)[0], []int{2, 4}) {
		t.Error("shared")
	}
}

func TestTheorem(t *testing.T) { // B4
	for seed := range 300 {
		c := samples.Code(seed)
		code, to := asm.Flat(c)
		list, next := blocks.Split(c), blocks.Next(c)
		at := 0
		first := map[int]int{len(code): len(list)}
		for i, b := range list {
			if b[0] != at || b[1] <= b[0] {
				t.Fatal(seed, list)
			}
			at = b[1]
			first[b[0]] = i
			for k := b[0]; k < b[1]-1; k++ {
				if code[k].Op >= api.InBeq && code[k].Op <= api.InRet {
					t.Error(seed, k)
				}
			}
		}
		if at != len(code) || len(next) != len(list) {
			t.Fatal(seed, list)
		}
		for i := range code {
			if _, ok := first[to[i]]; to[i] >= 0 && !ok {
				t.Error(seed, i)
			}
		}
		follow(t, seed, c, list, next, first)
	}
}

// follow runs code, and looks where each block's end leads. The place behind n steps is found by a change: where a fault is put in, the run faults at its next step.
func follow(t *testing.T, seed int, c api.Code, list [][2]int, next [][]int, first map[int]int) {
	t.Helper()
	code, _ := asm.Flat(c)
	was := 0
	for n := 1; n < 12 && len(code) < 25 && was < len(code); n++ {
		after := mach.Run(c, nil, n+1)
		if mach.Run(c, nil, n).Status != api.StatGoing || after.Status == api.StatFault && after.Steps > n {
			return
		}
		now := len(code)
		if after.Steps > n {
			now = -1
			for at := range code {
				if stands(c, n, at) {
					now = at
				}
			}
		}
		if now < 0 {
			return
		}
		i := 0
		for list[i][1] <= was {
			i++
		}
		if k, ok := first[now]; was == list[i][1]-1 && (!ok || !slices.Contains(next[i], k)) || was < list[i][1]-1 && now != was+1 {
			t.Error(seed, n, was, now, next[i])
		}
		was = now
	}
}

// stands tells whether a run that does not fault soon is at a place behind n steps, and was not there before.
func stands(c api.Code, n, at int) bool {
	d := c
	d.Lines = slices.Clone(c.Lines)
	for i, l := range c.Lines {
		if l.Label != "" {
			continue
		}
		if at == 0 {
			d.Lines[i] = api.Line{In: api.Instr{Op: api.InLd}}
		}
		at--
	}
	r := mach.Run(d, nil, n+1)
	return r.Status == api.StatFault && r.Steps == n+1
}
