package samples

import (
	"strconv"

	"counterproof/api"
)

// Unit is a unit that may be, by a number. Ends lead onward more often than back, so that many runs come to an end.
func Unit(seed int) api.Unit {
	s := New(seed)
	var u api.Unit
	for i := range s.Below(3) {
		u.Arrays = append(u.Arrays, api.Array{Name: "a" + strconv.Itoa(i), Size: 1 + s.Below(6)})
	}
	for i := range 1 + s.Below(4) {
		f := api.Flow{Name: "f" + strconv.Itoa(i), Params: s.Below(1 + s.Below(api.MaxParams+1))}
		u.Flows = append(u.Flows, f)
	}
	main := s.Below(len(u.Flows))
	u.Flows[main].Name, u.Flows[main].Params = "main", 0
	for i := range u.Flows {
		f := &u.Flows[i]
		f.Values = f.Params + 1 + s.Below(8)
		n := 1 + s.Below(8)
		for k := range n {
			f.Blocks = append(f.Blocks, s.block(u, f.Values, n, k))
		}
	}
	return u
}

func (s *Source) block(u api.Unit, values, blocks, at int) api.Block {
	var b api.Block
	for range s.Below(7) {
		b.Ins = append(b.Ins, s.ins(u, values))
	}
	to := func() int {
		if s.Below(4) == 0 {
			return s.Below(blocks)
		}
		return min(at+1+s.Below(2), blocks-1)
	}
	v := s.Below(values)
	switch k := s.Below(10); {
	case k == 0 || at == blocks-1 && k < 7:
		b.Term = api.Term{Kind: api.TermReturn, A: v}
	case k == 1 && s.Below(3) == 0:
		b.Term = api.Term{Kind: api.TermTrap, A: v}
	case k < 5:
		b.Term = api.Term{Kind: api.TermJump, To: to()}
	default:
		b.Term = api.Term{Kind: api.TermIf, A: v, To: to(), Else: to()}
	}
	return b
}

func (s *Source) ins(u api.Unit, values int) api.Ins {
	d, a, b := s.Below(values), s.Below(values), s.Below(values)
	switch s.Below(16) {
	case 0, 1, 2:
		return api.Ins{Kind: api.InsNum, D: d, N: s.Number() - s.Below(2)}
	case 3, 4:
		return api.Ins{Kind: api.InsMove, D: d, A: a}
	case 5:
		return api.Ins{Kind: api.InsOne, D: d, A: a, Op: api.OpNeg + s.Below(3)}
	case 6:
		return api.Ins{Kind: api.InsRead, D: d}
	case 7, 8:
		return api.Ins{Kind: api.InsPrint, A: a}
	case 9:
		f := u.Flows[s.Below(len(u.Flows))]
		in := api.Ins{Kind: api.InsCall, D: d, Name: f.Name}
		for range f.Params {
			in.Args = append(in.Args, s.Below(values))
		}
		return in
	case 10:
		if len(u.Arrays) > 0 {
			return api.Ins{Kind: api.InsLoad, D: d, A: a, Name: u.Arrays[s.Below(len(u.Arrays))].Name}
		}
	case 11:
		if len(u.Arrays) > 0 {
			return api.Ins{Kind: api.InsStore, A: a, B: b, Name: u.Arrays[s.Below(len(u.Arrays))].Name}
		}
	}
	op := api.OpAdd + s.Below(16)
	if (op == api.OpDiv || op == api.OpRem) && s.Below(3) > 0 {
		op = api.OpAdd
	}
	return api.Ins{Kind: api.InsTwo, D: d, A: a, B: b, Op: op}
}
