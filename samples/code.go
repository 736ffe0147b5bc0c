package samples

import (
	"strconv"

	"counterproof/api"
)

// registers are few, so that instructions have to do with one another.
func (s *Source) register() int {
	if s.Below(12) == 0 {
		return s.Below(api.Regs)
	}
	few := [...]int{0, 1, 2, 5, 6, 7, 10, 17, 31}
	return few[s.Below(len(few))]
}

// Code is code of the machine that may be, by a number; it behaves badly now and then.
func Code(seed int) api.Code {
	s := New(seed)
	var c api.Code
	for i := range s.Below(3) {
		c.Arrays = append(c.Arrays, api.Array{Name: "a" + strconv.Itoa(i), Size: 1 + s.Below(6)})
	}
	labels := 1 + s.Below(5)
	lines := s.Below(40)
	for range lines {
		c.Lines = append(c.Lines, s.idiom(c.Arrays, labels)...)
	}
	for i := range labels {
		at := s.Below(len(c.Lines) + 1)
		rest := append([]api.Line{{Label: "l" + strconv.Itoa(i)}}, c.Lines[at:]...)
		c.Lines = append(c.Lines[:at:at], rest...)
	}
	return c
}

// idiom is an instruction, or some that do something together.
func (s *Source) idiom(arrays []api.Array, labels int) []api.Line {
	li := func(d, n int) api.Line { return api.Line{In: api.Instr{Op: api.InLi, D: d, N: n}} }
	call := api.Line{In: api.Instr{Op: api.InCall}}
	switch s.Below(12) {
	case 0, 1:
		return []api.Line{li(17, api.CallPrint), call}
	case 2:
		return []api.Line{li(17, api.CallRead), call}
	case 3:
		if s.Below(3) == 0 {
			return []api.Line{li(10, s.Below(6)), li(17, s.Below(7)), call}
		}
	case 4, 5:
		n := 8 * (s.Below(8) - 6)
		d := s.register()
		if len(arrays) > 0 && s.Below(2) == 0 {
			a := arrays[s.Below(len(arrays))]
			return []api.Line{{In: api.Instr{Op: api.InLa, D: 6, Name: a.Name}}, {In: api.Instr{Op: api.InSd, A: 6, B: d, N: 8 * s.Below(a.Size)}}, {In: api.Instr{Op: api.InLd, D: s.register(), A: 6, N: 8 * s.Below(a.Size)}}}
		}
		return []api.Line{{In: api.Instr{Op: api.InSd, A: 2, B: d, N: n}}, {In: api.Instr{Op: api.InLd, D: s.register(), A: 2, N: n}}}
	case 6, 7:
		return []api.Line{li(s.register(), s.Number()-s.Below(3))}
	}
	in := s.Instr(arrays, labels)
	for n := s.Below(12); n > 0 && rash(in); n-- {
		in = s.Instr(arrays, labels)
	}
	return []api.Line{{In: in}}
}

// rash tells whether an instruction is apt to end in a fault.
func rash(in api.Instr) bool {
	switch in.Op {
	case api.InLd, api.InSd, api.InRet, api.InCall:
		return true
	}
	return in.D == 2
}

// Instr is any instruction of names that there are.
func (s *Source) Instr(arrays []api.Array, labels int) api.Instr {
	op := 1 + s.Below(api.InCall)
	label := "l" + strconv.Itoa(s.Below(labels))
	switch op {
	case api.InSeqz, api.InSnez, api.InMv:
		return api.Instr{Op: op, D: s.register(), A: s.register()}
	case api.InLi:
		return api.Instr{Op: op, D: s.register(), N: s.Number() - s.Number()}
	case api.InLa:
		if len(arrays) > 0 {
			return api.Instr{Op: op, D: s.register(), Name: arrays[s.Below(len(arrays))].Name}
		}
		return api.Instr{Op: api.InLi, D: s.register(), N: api.DataBase}
	case api.InAddi, api.InLd:
		return api.Instr{Op: op, D: s.register(), A: s.register(), N: s.Below(40) - 20}
	case api.InSd:
		return api.Instr{Op: op, A: s.register(), B: s.register(), N: 8 * (s.Below(20) - 10)}
	case api.InBeq, api.InBne, api.InBlt, api.InBge:
		return api.Instr{Op: op, A: s.register(), B: s.register(), Name: label}
	case api.InJ, api.InJal:
		return api.Instr{Op: op, Name: label}
	case api.InRet, api.InCall:
		return api.Instr{Op: op}
	}
	return api.Instr{Op: op, D: s.register(), A: s.register(), B: s.register()}
}
