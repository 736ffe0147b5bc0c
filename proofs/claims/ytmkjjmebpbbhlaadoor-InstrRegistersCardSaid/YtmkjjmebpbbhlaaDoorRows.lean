/-
  NARROWER THAN 'FOR EVERY INPUT', by the rows' own cells (each row's printed sentence says how): InstrTells: laid · InstrBack: laid · InstrForth: laid · InstrRegisters: laid · InstrNumbers: laid · InstrCut: laid.
  DERIVED. THE GIVEN ROWS OF THIS SEAT. 6 by the template 'for every input the law returns true; each argument reads behind the call as it read before'; 0 by the template 'total and deterministic' (their statements: YtmkjjmebpbbhlaaDoorTotals.lean).
  GIVEN WITH THE SEED: the statements are not yours to turn. If you find one false, say at which input.
  Laid BY PROGRAM, IN A SANDBOX (cutbox-rows.mjs): the forced cells as the released guide's own fill.sh prints them over the translation ca1528b5cf0ed3d4… (all of the seat's roots in one cut). By AI agents, Wed Nov 11 2026. No macro, syntax, notation, axiom, sorry.
-/
import Derived.Test.YtmkjjmebpbbhlaaDoorChecked
import GoSem.Claim
import GoSem.ClaimJoined
import GoSem.ClaimMapViews
import Derived.JoinedTies
import Derived.KernelRfl
namespace Go.Proofs.YtmkjjmebpbbhlaaDoor
/- THE CELL 'sum', in the pinned program and in every row, IS THE sha256 OF THE DUMP (.gsa) THAT YtmkjjmebpbbhlaaDoorProg.lean LOADS. Nothing in Lean hashes anything: it is a label: what it is worth is what the hold of that sum in a sandbox is worth. -/
noncomputable def Tryd.pinned : Pinned := { name := "ytmkjjmebpbbhlaadoor", sum := "ca1528b5cf0ed3d4c23e57fb22faa553678393a50add422f3b1f49a620f04f1a", checked := Tryd.checked }
namespace Rows
def none {H : Type} : Left H := { results := [], args := [] }

/- WHAT THE LISTED PACKAGE-LEVEL VARIABLES READ AS WHEN THE CALL BEGINS. Each datum BY PROGRAM (the guide's laid-datum.mjs) off the statement by which the dump's own 'gosem.cut.vars' lays the variable. In a bare row this is a premise. The card (YtmkjjmebpbbhlaaDoorCards.lean) ties it to the program's text. -/
def laid_math_bits_deBruijn32tab {H : Type} : DataW H := .agg [.lit (.int .u8 0), .lit (.int .u8 1), .lit (.int .u8 28), .lit (.int .u8 2), .lit (.int .u8 29), .lit (.int .u8 14), .lit (.int .u8 24), .lit (.int .u8 3), .lit (.int .u8 30), .lit (.int .u8 22), .lit (.int .u8 20), .lit (.int .u8 15), .lit (.int .u8 25), .lit (.int .u8 17), .lit (.int .u8 4), .lit (.int .u8 8), .lit (.int .u8 31), .lit (.int .u8 27), .lit (.int .u8 13), .lit (.int .u8 23), .lit (.int .u8 21), .lit (.int .u8 19), .lit (.int .u8 16), .lit (.int .u8 7), .lit (.int .u8 26), .lit (.int .u8 12), .lit (.int .u8 18), .lit (.int .u8 6), .lit (.int .u8 11), .lit (.int .u8 5), .lit (.int .u8 10), .lit (.int .u8 9)]
def laid_math_bits_deBruijn64tab {H : Type} : DataW H := .agg [.lit (.int .u8 0), .lit (.int .u8 1), .lit (.int .u8 56), .lit (.int .u8 2), .lit (.int .u8 57), .lit (.int .u8 49), .lit (.int .u8 28), .lit (.int .u8 3), .lit (.int .u8 61), .lit (.int .u8 58), .lit (.int .u8 42), .lit (.int .u8 50), .lit (.int .u8 38), .lit (.int .u8 29), .lit (.int .u8 17), .lit (.int .u8 4), .lit (.int .u8 62), .lit (.int .u8 47), .lit (.int .u8 59), .lit (.int .u8 36), .lit (.int .u8 45), .lit (.int .u8 43), .lit (.int .u8 51), .lit (.int .u8 22), .lit (.int .u8 53), .lit (.int .u8 39), .lit (.int .u8 33), .lit (.int .u8 30), .lit (.int .u8 24), .lit (.int .u8 18), .lit (.int .u8 12), .lit (.int .u8 5), .lit (.int .u8 63), .lit (.int .u8 55), .lit (.int .u8 48), .lit (.int .u8 27), .lit (.int .u8 60), .lit (.int .u8 41), .lit (.int .u8 37), .lit (.int .u8 16), .lit (.int .u8 46), .lit (.int .u8 35), .lit (.int .u8 44), .lit (.int .u8 21), .lit (.int .u8 52), .lit (.int .u8 32), .lit (.int .u8 23), .lit (.int .u8 11), .lit (.int .u8 54), .lit (.int .u8 26), .lit (.int .u8 40), .lit (.int .u8 15), .lit (.int .u8 34), .lit (.int .u8 20), .lit (.int .u8 31), .lit (.int .u8 10), .lit (.int .u8 25), .lit (.int .u8 14), .lit (.int .u8 19), .lit (.int .u8 9), .lit (.int .u8 13), .lit (.int .u8 8), .lit (.int .u8 7), .lit (.int .u8 6)]
def laid_internal_strconv_uint64pow10 {H : Type} : DataW H := .agg [.lit (.int .u64 1), .lit (.int .u64 10), .lit (.int .u64 100), .lit (.int .u64 1000), .lit (.int .u64 10000), .lit (.int .u64 100000), .lit (.int .u64 1000000), .lit (.int .u64 10000000), .lit (.int .u64 100000000), .lit (.int .u64 1000000000), .lit (.int .u64 10000000000), .lit (.int .u64 100000000000), .lit (.int .u64 1000000000000), .lit (.int .u64 10000000000000), .lit (.int .u64 100000000000000), .lit (.int .u64 1000000000000000), .lit (.int .u64 10000000000000000), .lit (.int .u64 100000000000000000), .lit (.int .u64 1000000000000000000), .lit (.int .u64 10000000000000000000)]
def laid_strconv_ErrRange {H : Type} : DataW H := .iface "*errors.errorString" (.ptr (.agg [.lit (.string [118, 97, 108, 117, 101, 32, 111, 117, 116, 32, 111, 102, 32, 114, 97, 110, 103, 101])]))
def laid_strconv_ErrSyntax {H : Type} : DataW H := .iface "*errors.errorString" (.ptr (.agg [.lit (.string [105, 110, 118, 97, 108, 105, 100, 32, 115, 121, 110, 116, 97, 120])]))
def laid_counterproof_instr_shapes {H : Type} : DataW H := .agg [.agg [.lit (.string []), .lit (.string [])], .agg [.lit (.string [97, 100, 100]), .lit (.string [68, 44, 32, 65, 44, 32, 66])], .agg [.lit (.string [115, 117, 98]), .lit (.string [68, 44, 32, 65, 44, 32, 66])], .agg [.lit (.string [109, 117, 108]), .lit (.string [68, 44, 32, 65, 44, 32, 66])], .agg [.lit (.string [100, 105, 118]), .lit (.string [68, 44, 32, 65, 44, 32, 66])], .agg [.lit (.string [114, 101, 109]), .lit (.string [68, 44, 32, 65, 44, 32, 66])], .agg [.lit (.string [97, 110, 100]), .lit (.string [68, 44, 32, 65, 44, 32, 66])], .agg [.lit (.string [111, 114]), .lit (.string [68, 44, 32, 65, 44, 32, 66])], .agg [.lit (.string [120, 111, 114]), .lit (.string [68, 44, 32, 65, 44, 32, 66])], .agg [.lit (.string [115, 108, 108]), .lit (.string [68, 44, 32, 65, 44, 32, 66])], .agg [.lit (.string [115, 114, 97]), .lit (.string [68, 44, 32, 65, 44, 32, 66])], .agg [.lit (.string [115, 108, 116]), .lit (.string [68, 44, 32, 65, 44, 32, 66])], .agg [.lit (.string [115, 108, 116, 117]), .lit (.string [68, 44, 32, 65, 44, 32, 66])], .agg [.lit (.string [115, 101, 113, 122]), .lit (.string [68, 44, 32, 65])], .agg [.lit (.string [115, 110, 101, 122]), .lit (.string [68, 44, 32, 65])], .agg [.lit (.string [109, 118]), .lit (.string [68, 44, 32, 65])], .agg [.lit (.string [108, 105]), .lit (.string [68, 44, 32, 78])], .agg [.lit (.string [108, 97]), .lit (.string [68, 44, 32, 76])], .agg [.lit (.string [97, 100, 100, 105]), .lit (.string [68, 44, 32, 65, 44, 32, 110])], .agg [.lit (.string [108, 100]), .lit (.string [68, 44, 32, 110, 40, 65, 41])], .agg [.lit (.string [115, 100]), .lit (.string [66, 44, 32, 110, 40, 65, 41])], .agg [.lit (.string [98, 101, 113]), .lit (.string [65, 44, 32, 66, 44, 32, 76])], .agg [.lit (.string [98, 110, 101]), .lit (.string [65, 44, 32, 66, 44, 32, 76])], .agg [.lit (.string [98, 108, 116]), .lit (.string [65, 44, 32, 66, 44, 32, 76])], .agg [.lit (.string [98, 103, 101]), .lit (.string [65, 44, 32, 66, 44, 32, 76])], .agg [.lit (.string [106]), .lit (.string [76])], .agg [.lit (.string [106, 97, 108]), .lit (.string [76])], .agg [.lit (.string [114, 101, 116]), .lit (.string [])], .agg [.lit (.string [101, 99, 97, 108, 108]), .lit (.string [])]]

/-- 'counterprooflaw07.InstrTells': WHATEVER THE INPUT: true; the input reads as it did. -/
def instrTellsSpec : ChangeSpec := { name := "instrTells", fn := fun _ => fun
  | [d1, d2, d3, d4] => { results := [.lit (.bool true)], args := [d1, d2, d3, d4] }
  | _ => none }
def instrTellsRow : OpenClaim := { program := "ytmkjjmebpbbhlaadoor", sum := "ca1528b5cf0ed3d4c23e57fb22faa553678393a50add422f3b1f49a620f04f1a", func := "counterproof/counterprooflaw07.InstrTells", spec := "instrTells", inPlace := ["internal/bytealg.IndexByteString", "internal/bytealg.IndexString"], recurses := true, named := ["counterproof/instr.shapes", "internal/bytealg.MaxLen", "strconv.ErrSyntax", "strconv.ErrRange", "internal/strconv.uint64pow10", "math/bits.deBruijn32tab", "math/bits.deBruijn64tab"], apart := false, laid := [("math/bits.deBruijn32tab", laid_math_bits_deBruijn32tab), ("math/bits.deBruijn64tab", laid_math_bits_deBruijn64tab), ("internal/strconv.uint64pow10", laid_internal_strconv_uint64pow10), ("strconv.ErrRange", laid_strconv_ErrRange), ("strconv.ErrSyntax", laid_strconv_ErrSyntax), ("counterproof/instr.shapes", laid_counterproof_instr_shapes)] }
def InstrTellsSaid : Prop := instrTellsRow.holds Tryd.pinned (OpenSpec.ofChange instrTellsSpec)

/-- ITS FALSE NEIGHBOUR: 'it returns false'. Refute it at one input. -/
def instrTellsWrong : ChangeSpec := { name := "instrTells", fn := fun _ => fun
  | [d1, d2, d3, d4] => { results := [.lit (.bool false)], args := [d1, d2, d3, d4] }
  | _ => none }
def InstrTellsWrongFalsely : Prop := instrTellsRow.holds Tryd.pinned (OpenSpec.ofChange instrTellsWrong)

/-- 'counterprooflaw07.InstrBack': WHATEVER THE INPUT: true; the input reads as it did. -/
def instrBackSpec : ChangeSpec := { name := "instrBack", fn := fun _ => fun
  | [d1, d2] => { results := [.lit (.bool true)], args := [d1, d2] }
  | _ => none }
def instrBackRow : OpenClaim := { program := "ytmkjjmebpbbhlaadoor", sum := "ca1528b5cf0ed3d4c23e57fb22faa553678393a50add422f3b1f49a620f04f1a", func := "counterproof/counterprooflaw07.InstrBack", spec := "instrBack", inPlace := ["internal/bytealg.IndexByteString", "internal/bytealg.IndexString"], named := ["counterproof/instr.shapes", "internal/bytealg.MaxLen", "strconv.ErrSyntax", "strconv.ErrRange", "internal/strconv.uint64pow10", "math/bits.deBruijn32tab", "math/bits.deBruijn64tab"], apart := false, laid := [("math/bits.deBruijn32tab", laid_math_bits_deBruijn32tab), ("math/bits.deBruijn64tab", laid_math_bits_deBruijn64tab), ("internal/strconv.uint64pow10", laid_internal_strconv_uint64pow10), ("strconv.ErrRange", laid_strconv_ErrRange), ("strconv.ErrSyntax", laid_strconv_ErrSyntax), ("counterproof/instr.shapes", laid_counterproof_instr_shapes)] }
def InstrBackSaid : Prop := instrBackRow.holds Tryd.pinned (OpenSpec.ofChange instrBackSpec)

/-- ITS FALSE NEIGHBOUR: 'it returns false'. Refute it at one input. -/
def instrBackWrong : ChangeSpec := { name := "instrBack", fn := fun _ => fun
  | [d1, d2] => { results := [.lit (.bool false)], args := [d1, d2] }
  | _ => none }
def InstrBackWrongFalsely : Prop := instrBackRow.holds Tryd.pinned (OpenSpec.ofChange instrBackWrong)

/-- 'counterprooflaw07.InstrForth': WHATEVER THE INPUT: true; the input reads as it did. -/
def instrForthSpec : ChangeSpec := { name := "instrForth", fn := fun _ => fun
  | [d1, d2, d3, d4] => { results := [.lit (.bool true)], args := [d1, d2, d3, d4] }
  | _ => none }
def instrForthRow : OpenClaim := { program := "ytmkjjmebpbbhlaadoor", sum := "ca1528b5cf0ed3d4c23e57fb22faa553678393a50add422f3b1f49a620f04f1a", func := "counterproof/counterprooflaw07.InstrForth", spec := "instrForth", inPlace := ["internal/bytealg.IndexByteString", "internal/bytealg.IndexString"], named := ["counterproof/instr.shapes", "internal/bytealg.MaxLen", "strconv.ErrSyntax", "strconv.ErrRange", "internal/strconv.uint64pow10", "math/bits.deBruijn32tab", "math/bits.deBruijn64tab"], apart := false, laid := [("math/bits.deBruijn32tab", laid_math_bits_deBruijn32tab), ("math/bits.deBruijn64tab", laid_math_bits_deBruijn64tab), ("internal/strconv.uint64pow10", laid_internal_strconv_uint64pow10), ("strconv.ErrRange", laid_strconv_ErrRange), ("strconv.ErrSyntax", laid_strconv_ErrSyntax), ("counterproof/instr.shapes", laid_counterproof_instr_shapes)] }
def InstrForthSaid : Prop := instrForthRow.holds Tryd.pinned (OpenSpec.ofChange instrForthSpec)

/-- ITS FALSE NEIGHBOUR: 'it returns false'. Refute it at one input. -/
def instrForthWrong : ChangeSpec := { name := "instrForth", fn := fun _ => fun
  | [d1, d2, d3, d4] => { results := [.lit (.bool false)], args := [d1, d2, d3, d4] }
  | _ => none }
def InstrForthWrongFalsely : Prop := instrForthRow.holds Tryd.pinned (OpenSpec.ofChange instrForthWrong)

/-- 'counterprooflaw07.InstrRegisters': WHATEVER THE INPUT: true; the input reads as it did. -/
def instrRegistersSpec : ChangeSpec := { name := "instrRegisters", fn := fun _ => fun
  | [d1, d2, d3] => { results := [.lit (.bool true)], args := [d1, d2, d3] }
  | _ => none }
def instrRegistersRow : OpenClaim := { program := "ytmkjjmebpbbhlaadoor", sum := "ca1528b5cf0ed3d4c23e57fb22faa553678393a50add422f3b1f49a620f04f1a", func := "counterproof/counterprooflaw07.InstrRegisters", spec := "instrRegisters", inPlace := ["internal/bytealg.IndexByteString", "internal/bytealg.IndexString"], named := ["counterproof/instr.shapes", "internal/bytealg.MaxLen", "strconv.ErrSyntax", "strconv.ErrRange", "internal/strconv.uint64pow10", "math/bits.deBruijn32tab", "math/bits.deBruijn64tab"], apart := false, laid := [("math/bits.deBruijn32tab", laid_math_bits_deBruijn32tab), ("math/bits.deBruijn64tab", laid_math_bits_deBruijn64tab), ("internal/strconv.uint64pow10", laid_internal_strconv_uint64pow10), ("strconv.ErrRange", laid_strconv_ErrRange), ("strconv.ErrSyntax", laid_strconv_ErrSyntax), ("counterproof/instr.shapes", laid_counterproof_instr_shapes)] }
def InstrRegistersSaid : Prop := instrRegistersRow.holds Tryd.pinned (OpenSpec.ofChange instrRegistersSpec)

/-- ITS FALSE NEIGHBOUR: 'it returns false'. Refute it at one input. -/
def instrRegistersWrong : ChangeSpec := { name := "instrRegisters", fn := fun _ => fun
  | [d1, d2, d3] => { results := [.lit (.bool false)], args := [d1, d2, d3] }
  | _ => none }
def InstrRegistersWrongFalsely : Prop := instrRegistersRow.holds Tryd.pinned (OpenSpec.ofChange instrRegistersWrong)

/-- 'counterprooflaw07.InstrNumbers': WHATEVER THE INPUT: true; the input reads as it did. -/
def instrNumbersSpec : ChangeSpec := { name := "instrNumbers", fn := fun _ => fun
  | [d1, d2, d3] => { results := [.lit (.bool true)], args := [d1, d2, d3] }
  | _ => none }
def instrNumbersRow : OpenClaim := { program := "ytmkjjmebpbbhlaadoor", sum := "ca1528b5cf0ed3d4c23e57fb22faa553678393a50add422f3b1f49a620f04f1a", func := "counterproof/counterprooflaw07.InstrNumbers", spec := "instrNumbers", inPlace := ["internal/bytealg.IndexByteString", "internal/bytealg.IndexString"], named := ["counterproof/instr.shapes", "internal/bytealg.MaxLen", "strconv.ErrSyntax", "strconv.ErrRange", "internal/strconv.uint64pow10", "math/bits.deBruijn32tab", "math/bits.deBruijn64tab"], apart := false, laid := [("math/bits.deBruijn32tab", laid_math_bits_deBruijn32tab), ("math/bits.deBruijn64tab", laid_math_bits_deBruijn64tab), ("internal/strconv.uint64pow10", laid_internal_strconv_uint64pow10), ("strconv.ErrRange", laid_strconv_ErrRange), ("strconv.ErrSyntax", laid_strconv_ErrSyntax), ("counterproof/instr.shapes", laid_counterproof_instr_shapes)] }
def InstrNumbersSaid : Prop := instrNumbersRow.holds Tryd.pinned (OpenSpec.ofChange instrNumbersSpec)

/-- ITS FALSE NEIGHBOUR: 'it returns false'. Refute it at one input. -/
def instrNumbersWrong : ChangeSpec := { name := "instrNumbers", fn := fun _ => fun
  | [d1, d2, d3] => { results := [.lit (.bool false)], args := [d1, d2, d3] }
  | _ => none }
def InstrNumbersWrongFalsely : Prop := instrNumbersRow.holds Tryd.pinned (OpenSpec.ofChange instrNumbersWrong)

/-- 'counterprooflaw07.InstrCut': WHATEVER THE INPUT: true; the input reads as it did. -/
def instrCutSpec : ChangeSpec := { name := "instrCut", fn := fun _ => fun
  | [d1, d2] => { results := [.lit (.bool true)], args := [d1, d2] }
  | _ => none }
def instrCutRow : OpenClaim := { program := "ytmkjjmebpbbhlaadoor", sum := "ca1528b5cf0ed3d4c23e57fb22faa553678393a50add422f3b1f49a620f04f1a", func := "counterproof/counterprooflaw07.InstrCut", spec := "instrCut", inPlace := ["internal/bytealg.IndexByteString", "internal/bytealg.IndexString"], named := ["counterproof/instr.shapes", "internal/bytealg.MaxLen", "strconv.ErrSyntax", "strconv.ErrRange", "internal/strconv.uint64pow10", "math/bits.deBruijn32tab", "math/bits.deBruijn64tab"], apart := false, laid := [("math/bits.deBruijn32tab", laid_math_bits_deBruijn32tab), ("math/bits.deBruijn64tab", laid_math_bits_deBruijn64tab), ("internal/strconv.uint64pow10", laid_internal_strconv_uint64pow10), ("strconv.ErrRange", laid_strconv_ErrRange), ("strconv.ErrSyntax", laid_strconv_ErrSyntax), ("counterproof/instr.shapes", laid_counterproof_instr_shapes)] }
def InstrCutSaid : Prop := instrCutRow.holds Tryd.pinned (OpenSpec.ofChange instrCutSpec)

/-- ITS FALSE NEIGHBOUR: 'it returns false'. Refute it at one input. -/
def instrCutWrong : ChangeSpec := { name := "instrCut", fn := fun _ => fun
  | [d1, d2] => { results := [.lit (.bool false)], args := [d1, d2] }
  | _ => none }
def InstrCutWrongFalsely : Prop := instrCutRow.holds Tryd.pinned (OpenSpec.ofChange instrCutWrong)

/- THE SECOND FORM. 'bulk': how many values and letters a reading holds, each counted each time it is reached (what is shared counts as often as it is met; a slice's spare places count too). A statement '..UptoSaid' is the law's where the arguments, and the package variables that the reading takes, are together of bulk at most 1048576: NARROWER than '..Said'. Prove '..Said' where nothing that the law and all that it calls make is longer than what came in: it says more and counts as full. Else prove '..UptoSaid'. A law counts once. -/
mutual
def uptoBulk {H : Type} : DataW H → Nat
  | .lit (.string bytes) => bytes.length + 1
  | .lit _ => 1
  | .nil => 1
  | .ptr d => uptoBulk d + 1
  | .slice elems spare => uptoBulkAll elems + uptoBulkAll spare + 1
  | .agg parts => uptoBulkAll parts + 1
  | .iface _ d => uptoBulk d + 1
  | .map entries => uptoBulkEntries entries + 1
  | .held _ => 1
def uptoBulkAll {H : Type} : List (DataW H) → Nat
  | [] => 0
  | d :: r => uptoBulk d + uptoBulkAll r
def uptoBulkEntries {H : Type} : List (Lit × DataW H) → Nat
  | [] => 0
  | x :: r => uptoBulkEntry x + uptoBulkEntries r
def uptoBulkEntry {H : Type} : Lit × DataW H → Nat
  | (.string bytes, d) => bytes.length + uptoBulk d + 1
  | (_, d) => uptoBulk d + 1
 end
def uptoSmall : (H : Type) → List (DataW H) → Bool := fun _ ds => decide (uptoBulkAll ds ≤ 1048576)
def OpenSpec.upto (s : _root_.Go.ChangeSpec) : _root_.Go.OpenSpec := { _root_.Go.OpenSpec.ofChange s with cond := some uptoSmall }

/-- 'counterprooflaw07.InstrTells', WHERE WHAT IT READS IS OF BULK AT MOST 1048576: true; the input reads as it did. -/
def instrTellsUptoRow : OpenClaim := { program := "ytmkjjmebpbbhlaadoor", sum := "ca1528b5cf0ed3d4c23e57fb22faa553678393a50add422f3b1f49a620f04f1a", func := "counterproof/counterprooflaw07.InstrTells", spec := "instrTells", inPlace := ["internal/bytealg.IndexByteString", "internal/bytealg.IndexString"], recurses := true, named := ["counterproof/instr.shapes", "internal/bytealg.MaxLen", "strconv.ErrSyntax", "strconv.ErrRange", "internal/strconv.uint64pow10", "math/bits.deBruijn32tab", "math/bits.deBruijn64tab"], apart := false, laid := [("math/bits.deBruijn32tab", laid_math_bits_deBruijn32tab), ("math/bits.deBruijn64tab", laid_math_bits_deBruijn64tab), ("internal/strconv.uint64pow10", laid_internal_strconv_uint64pow10), ("strconv.ErrRange", laid_strconv_ErrRange), ("strconv.ErrSyntax", laid_strconv_ErrSyntax), ("counterproof/instr.shapes", laid_counterproof_instr_shapes)], narrowed := true }
def InstrTellsUptoSaid : Prop := instrTellsUptoRow.holds Tryd.pinned (OpenSpec.upto instrTellsSpec)

/-- 'counterprooflaw07.InstrBack', WHERE WHAT IT READS IS OF BULK AT MOST 1048576: true; the input reads as it did. -/
def instrBackUptoRow : OpenClaim := { program := "ytmkjjmebpbbhlaadoor", sum := "ca1528b5cf0ed3d4c23e57fb22faa553678393a50add422f3b1f49a620f04f1a", func := "counterproof/counterprooflaw07.InstrBack", spec := "instrBack", inPlace := ["internal/bytealg.IndexByteString", "internal/bytealg.IndexString"], named := ["counterproof/instr.shapes", "internal/bytealg.MaxLen", "strconv.ErrSyntax", "strconv.ErrRange", "internal/strconv.uint64pow10", "math/bits.deBruijn32tab", "math/bits.deBruijn64tab"], apart := false, laid := [("math/bits.deBruijn32tab", laid_math_bits_deBruijn32tab), ("math/bits.deBruijn64tab", laid_math_bits_deBruijn64tab), ("internal/strconv.uint64pow10", laid_internal_strconv_uint64pow10), ("strconv.ErrRange", laid_strconv_ErrRange), ("strconv.ErrSyntax", laid_strconv_ErrSyntax), ("counterproof/instr.shapes", laid_counterproof_instr_shapes)], narrowed := true }
def InstrBackUptoSaid : Prop := instrBackUptoRow.holds Tryd.pinned (OpenSpec.upto instrBackSpec)

/-- 'counterprooflaw07.InstrForth', WHERE WHAT IT READS IS OF BULK AT MOST 1048576: true; the input reads as it did. -/
def instrForthUptoRow : OpenClaim := { program := "ytmkjjmebpbbhlaadoor", sum := "ca1528b5cf0ed3d4c23e57fb22faa553678393a50add422f3b1f49a620f04f1a", func := "counterproof/counterprooflaw07.InstrForth", spec := "instrForth", inPlace := ["internal/bytealg.IndexByteString", "internal/bytealg.IndexString"], named := ["counterproof/instr.shapes", "internal/bytealg.MaxLen", "strconv.ErrSyntax", "strconv.ErrRange", "internal/strconv.uint64pow10", "math/bits.deBruijn32tab", "math/bits.deBruijn64tab"], apart := false, laid := [("math/bits.deBruijn32tab", laid_math_bits_deBruijn32tab), ("math/bits.deBruijn64tab", laid_math_bits_deBruijn64tab), ("internal/strconv.uint64pow10", laid_internal_strconv_uint64pow10), ("strconv.ErrRange", laid_strconv_ErrRange), ("strconv.ErrSyntax", laid_strconv_ErrSyntax), ("counterproof/instr.shapes", laid_counterproof_instr_shapes)], narrowed := true }
def InstrForthUptoSaid : Prop := instrForthUptoRow.holds Tryd.pinned (OpenSpec.upto instrForthSpec)

/-- 'counterprooflaw07.InstrRegisters', WHERE WHAT IT READS IS OF BULK AT MOST 1048576: true; the input reads as it did. -/
def instrRegistersUptoRow : OpenClaim := { program := "ytmkjjmebpbbhlaadoor", sum := "ca1528b5cf0ed3d4c23e57fb22faa553678393a50add422f3b1f49a620f04f1a", func := "counterproof/counterprooflaw07.InstrRegisters", spec := "instrRegisters", inPlace := ["internal/bytealg.IndexByteString", "internal/bytealg.IndexString"], named := ["counterproof/instr.shapes", "internal/bytealg.MaxLen", "strconv.ErrSyntax", "strconv.ErrRange", "internal/strconv.uint64pow10", "math/bits.deBruijn32tab", "math/bits.deBruijn64tab"], apart := false, laid := [("math/bits.deBruijn32tab", laid_math_bits_deBruijn32tab), ("math/bits.deBruijn64tab", laid_math_bits_deBruijn64tab), ("internal/strconv.uint64pow10", laid_internal_strconv_uint64pow10), ("strconv.ErrRange", laid_strconv_ErrRange), ("strconv.ErrSyntax", laid_strconv_ErrSyntax), ("counterproof/instr.shapes", laid_counterproof_instr_shapes)], narrowed := true }
def InstrRegistersUptoSaid : Prop := instrRegistersUptoRow.holds Tryd.pinned (OpenSpec.upto instrRegistersSpec)

/-- 'counterprooflaw07.InstrNumbers', WHERE WHAT IT READS IS OF BULK AT MOST 1048576: true; the input reads as it did. -/
def instrNumbersUptoRow : OpenClaim := { program := "ytmkjjmebpbbhlaadoor", sum := "ca1528b5cf0ed3d4c23e57fb22faa553678393a50add422f3b1f49a620f04f1a", func := "counterproof/counterprooflaw07.InstrNumbers", spec := "instrNumbers", inPlace := ["internal/bytealg.IndexByteString", "internal/bytealg.IndexString"], named := ["counterproof/instr.shapes", "internal/bytealg.MaxLen", "strconv.ErrSyntax", "strconv.ErrRange", "internal/strconv.uint64pow10", "math/bits.deBruijn32tab", "math/bits.deBruijn64tab"], apart := false, laid := [("math/bits.deBruijn32tab", laid_math_bits_deBruijn32tab), ("math/bits.deBruijn64tab", laid_math_bits_deBruijn64tab), ("internal/strconv.uint64pow10", laid_internal_strconv_uint64pow10), ("strconv.ErrRange", laid_strconv_ErrRange), ("strconv.ErrSyntax", laid_strconv_ErrSyntax), ("counterproof/instr.shapes", laid_counterproof_instr_shapes)], narrowed := true }
def InstrNumbersUptoSaid : Prop := instrNumbersUptoRow.holds Tryd.pinned (OpenSpec.upto instrNumbersSpec)

/-- 'counterprooflaw07.InstrCut', WHERE WHAT IT READS IS OF BULK AT MOST 1048576: true; the input reads as it did. -/
def instrCutUptoRow : OpenClaim := { program := "ytmkjjmebpbbhlaadoor", sum := "ca1528b5cf0ed3d4c23e57fb22faa553678393a50add422f3b1f49a620f04f1a", func := "counterproof/counterprooflaw07.InstrCut", spec := "instrCut", inPlace := ["internal/bytealg.IndexByteString", "internal/bytealg.IndexString"], named := ["counterproof/instr.shapes", "internal/bytealg.MaxLen", "strconv.ErrSyntax", "strconv.ErrRange", "internal/strconv.uint64pow10", "math/bits.deBruijn32tab", "math/bits.deBruijn64tab"], apart := false, laid := [("math/bits.deBruijn32tab", laid_math_bits_deBruijn32tab), ("math/bits.deBruijn64tab", laid_math_bits_deBruijn64tab), ("internal/strconv.uint64pow10", laid_internal_strconv_uint64pow10), ("strconv.ErrRange", laid_strconv_ErrRange), ("strconv.ErrSyntax", laid_strconv_ErrSyntax), ("counterproof/instr.shapes", laid_counterproof_instr_shapes)], narrowed := true }
def InstrCutUptoSaid : Prop := instrCutUptoRow.holds Tryd.pinned (OpenSpec.upto instrCutSpec)

end Rows
end Go.Proofs.YtmkjjmebpbbhlaaDoor
