/-
  NARROWER THAN 'FOR EVERY INPUT', by the rows' own cells (each row's printed sentence says how): MachSteps: laid · MachMoves: laid · MachCounts: laid · MachFaults: laid · MachWords: laid · MachOps: laid · MachBranch: laid · MachZero: laid.
  DERIVED. THE GIVEN ROWS OF THIS SEAT. 8 by the template 'for every input the law returns true; each argument reads behind the call as it read before'; 0 by the template 'total and deterministic' (their statements: YteehdbbohjhnoaaGreatDoorTotals.lean).
  GIVEN WITH THE SEED: the statements are not yours to turn. If you find one false, say at which input.
  Laid BY PROGRAM, IN A SANDBOX (cutbox-rows.mjs): the forced cells as the released guide's own fill.sh prints them over the translation bb2805f70db699db… (all of the seat's roots in one cut). By AI agents, Wed Nov 11 2026. No macro, syntax, notation, axiom, sorry.
-/
import Derived.Test.YteehdbbohjhnoaaGreatDoorChecked
import GoSem.PinnedTables
import GoSem.Claim
import GoSem.ClaimJoined
import GoSem.ClaimMapViews
import Derived.JoinedTies
import Derived.KernelRfl
namespace Go.Proofs.YteehdbbohjhnoaaGreatDoor
/- THE CELL 'sum', in the pinned program and in every row, IS THE sha256 OF THE DUMP (.gsa) THAT YteehdbbohjhnoaaGreatDoorProg.lean LOADS. Nothing in Lean hashes anything: it is a label: what it is worth is what the hold of that sum in a sandbox is worth. -/
noncomputable def Tryz.pinned : Pinned := { name := "yteehdbbohjhnoaagreatdoor", sum := "bb2805f70db699dbb167912600942e2db4be771c5a89ee78a87821be1dc1e6e4", checked := Tryz.checked }
namespace Rows
def none {H : Type} : Left H := { results := [], args := [] }

/- WHAT THE LISTED PACKAGE-LEVEL VARIABLES READ AS WHEN THE CALL BEGINS. Each datum BY PROGRAM (the guide's laid-datum.mjs) off the statement by which the dump's own 'gosem.cut.vars' lays the variable. In a bare row this is a premise. The card (YteehdbbohjhnoaaGreatDoorCards.lean) ties it to the program's text. -/
def laid_math_bits_deBruijn32tab {H : Type} : DataW H := .agg [.lit (.int .u8 0), .lit (.int .u8 1), .lit (.int .u8 28), .lit (.int .u8 2), .lit (.int .u8 29), .lit (.int .u8 14), .lit (.int .u8 24), .lit (.int .u8 3), .lit (.int .u8 30), .lit (.int .u8 22), .lit (.int .u8 20), .lit (.int .u8 15), .lit (.int .u8 25), .lit (.int .u8 17), .lit (.int .u8 4), .lit (.int .u8 8), .lit (.int .u8 31), .lit (.int .u8 27), .lit (.int .u8 13), .lit (.int .u8 23), .lit (.int .u8 21), .lit (.int .u8 19), .lit (.int .u8 16), .lit (.int .u8 7), .lit (.int .u8 26), .lit (.int .u8 12), .lit (.int .u8 18), .lit (.int .u8 6), .lit (.int .u8 11), .lit (.int .u8 5), .lit (.int .u8 10), .lit (.int .u8 9)]
def laid_math_bits_deBruijn64tab {H : Type} : DataW H := .agg [.lit (.int .u8 0), .lit (.int .u8 1), .lit (.int .u8 56), .lit (.int .u8 2), .lit (.int .u8 57), .lit (.int .u8 49), .lit (.int .u8 28), .lit (.int .u8 3), .lit (.int .u8 61), .lit (.int .u8 58), .lit (.int .u8 42), .lit (.int .u8 50), .lit (.int .u8 38), .lit (.int .u8 29), .lit (.int .u8 17), .lit (.int .u8 4), .lit (.int .u8 62), .lit (.int .u8 47), .lit (.int .u8 59), .lit (.int .u8 36), .lit (.int .u8 45), .lit (.int .u8 43), .lit (.int .u8 51), .lit (.int .u8 22), .lit (.int .u8 53), .lit (.int .u8 39), .lit (.int .u8 33), .lit (.int .u8 30), .lit (.int .u8 24), .lit (.int .u8 18), .lit (.int .u8 12), .lit (.int .u8 5), .lit (.int .u8 63), .lit (.int .u8 55), .lit (.int .u8 48), .lit (.int .u8 27), .lit (.int .u8 60), .lit (.int .u8 41), .lit (.int .u8 37), .lit (.int .u8 16), .lit (.int .u8 46), .lit (.int .u8 35), .lit (.int .u8 44), .lit (.int .u8 21), .lit (.int .u8 52), .lit (.int .u8 32), .lit (.int .u8 23), .lit (.int .u8 11), .lit (.int .u8 54), .lit (.int .u8 26), .lit (.int .u8 40), .lit (.int .u8 15), .lit (.int .u8 34), .lit (.int .u8 20), .lit (.int .u8 31), .lit (.int .u8 10), .lit (.int .u8 25), .lit (.int .u8 14), .lit (.int .u8 19), .lit (.int .u8 9), .lit (.int .u8 13), .lit (.int .u8 8), .lit (.int .u8 7), .lit (.int .u8 6)]
def laid_internal_strconv_uint64pow10 {H : Type} : DataW H := .agg [.lit (.int .u64 1), .lit (.int .u64 10), .lit (.int .u64 100), .lit (.int .u64 1000), .lit (.int .u64 10000), .lit (.int .u64 100000), .lit (.int .u64 1000000), .lit (.int .u64 10000000), .lit (.int .u64 100000000), .lit (.int .u64 1000000000), .lit (.int .u64 10000000000), .lit (.int .u64 100000000000), .lit (.int .u64 1000000000000), .lit (.int .u64 10000000000000), .lit (.int .u64 100000000000000), .lit (.int .u64 1000000000000000), .lit (.int .u64 10000000000000000), .lit (.int .u64 100000000000000000), .lit (.int .u64 1000000000000000000), .lit (.int .u64 10000000000000000000)]
def laid_unicode_utf8_acceptRanges {H : Type} : DataW H := .agg [.agg [.lit (.int .u8 128), .lit (.int .u8 191)], .agg [.lit (.int .u8 160), .lit (.int .u8 191)], .agg [.lit (.int .u8 128), .lit (.int .u8 159)], .agg [.lit (.int .u8 144), .lit (.int .u8 191)], .agg [.lit (.int .u8 128), .lit (.int .u8 143)], .agg [.lit (.int .u8 0), .lit (.int .u8 0)], .agg [.lit (.int .u8 0), .lit (.int .u8 0)], .agg [.lit (.int .u8 0), .lit (.int .u8 0)], .agg [.lit (.int .u8 0), .lit (.int .u8 0)], .agg [.lit (.int .u8 0), .lit (.int .u8 0)], .agg [.lit (.int .u8 0), .lit (.int .u8 0)], .agg [.lit (.int .u8 0), .lit (.int .u8 0)], .agg [.lit (.int .u8 0), .lit (.int .u8 0)], .agg [.lit (.int .u8 0), .lit (.int .u8 0)], .agg [.lit (.int .u8 0), .lit (.int .u8 0)], .agg [.lit (.int .u8 0), .lit (.int .u8 0)]]
def laid_strconv_ErrRange {H : Type} : DataW H := .iface "*errors.errorString" (.ptr (.agg [.lit (.string [118, 97, 108, 117, 101, 32, 111, 117, 116, 32, 111, 102, 32, 114, 97, 110, 103, 101])]))
def laid_strconv_ErrSyntax {H : Type} : DataW H := .iface "*errors.errorString" (.ptr (.agg [.lit (.string [105, 110, 118, 97, 108, 105, 100, 32, 115, 121, 110, 116, 97, 120])]))
def laid_counterproof_instr_shapes {H : Type} : DataW H := .agg [.agg [.lit (.string []), .lit (.string [])], .agg [.lit (.string [97, 100, 100]), .lit (.string [68, 44, 32, 65, 44, 32, 66])], .agg [.lit (.string [115, 117, 98]), .lit (.string [68, 44, 32, 65, 44, 32, 66])], .agg [.lit (.string [109, 117, 108]), .lit (.string [68, 44, 32, 65, 44, 32, 66])], .agg [.lit (.string [100, 105, 118]), .lit (.string [68, 44, 32, 65, 44, 32, 66])], .agg [.lit (.string [114, 101, 109]), .lit (.string [68, 44, 32, 65, 44, 32, 66])], .agg [.lit (.string [97, 110, 100]), .lit (.string [68, 44, 32, 65, 44, 32, 66])], .agg [.lit (.string [111, 114]), .lit (.string [68, 44, 32, 65, 44, 32, 66])], .agg [.lit (.string [120, 111, 114]), .lit (.string [68, 44, 32, 65, 44, 32, 66])], .agg [.lit (.string [115, 108, 108]), .lit (.string [68, 44, 32, 65, 44, 32, 66])], .agg [.lit (.string [115, 114, 97]), .lit (.string [68, 44, 32, 65, 44, 32, 66])], .agg [.lit (.string [115, 108, 116]), .lit (.string [68, 44, 32, 65, 44, 32, 66])], .agg [.lit (.string [115, 108, 116, 117]), .lit (.string [68, 44, 32, 65, 44, 32, 66])], .agg [.lit (.string [115, 101, 113, 122]), .lit (.string [68, 44, 32, 65])], .agg [.lit (.string [115, 110, 101, 122]), .lit (.string [68, 44, 32, 65])], .agg [.lit (.string [109, 118]), .lit (.string [68, 44, 32, 65])], .agg [.lit (.string [108, 105]), .lit (.string [68, 44, 32, 78])], .agg [.lit (.string [108, 97]), .lit (.string [68, 44, 32, 76])], .agg [.lit (.string [97, 100, 100, 105]), .lit (.string [68, 44, 32, 65, 44, 32, 110])], .agg [.lit (.string [108, 100]), .lit (.string [68, 44, 32, 110, 40, 65, 41])], .agg [.lit (.string [115, 100]), .lit (.string [66, 44, 32, 110, 40, 65, 41])], .agg [.lit (.string [98, 101, 113]), .lit (.string [65, 44, 32, 66, 44, 32, 76])], .agg [.lit (.string [98, 110, 101]), .lit (.string [65, 44, 32, 66, 44, 32, 76])], .agg [.lit (.string [98, 108, 116]), .lit (.string [65, 44, 32, 66, 44, 32, 76])], .agg [.lit (.string [98, 103, 101]), .lit (.string [65, 44, 32, 66, 44, 32, 76])], .agg [.lit (.string [106]), .lit (.string [76])], .agg [.lit (.string [106, 97, 108]), .lit (.string [76])], .agg [.lit (.string [114, 101, 116]), .lit (.string [])], .agg [.lit (.string [101, 99, 97, 108, 108]), .lit (.string [])]]
/-- One of Go's own tables, pinned by name: the form's constant. -/
def laid_unicode_utf8_first : DataW Unit := Go.Pinned.utf8First

/-- 'counterprooflaw09.MachSteps': WHATEVER THE INPUT: true; the input reads as it did. -/
def machStepsSpec : ChangeSpec := { name := "machSteps", fn := fun _ => fun
  | [d1, d2, d3, d4, d5] => { results := [.lit (.bool true)], args := [d1, d2, d3, d4, d5] }
  | _ => none }
def machStepsRow : OpenClaim := { program := "yteehdbbohjhnoaagreatdoor", sum := "bb2805f70db699dbb167912600942e2db4be771c5a89ee78a87821be1dc1e6e4", func := "counterproof/counterprooflaw09.MachSteps", spec := "machSteps", inPlace := ["internal/bytealg.CountString", "internal/bytealg.IndexByteString", "internal/bytealg.IndexString"], unfollowed := true, recurses := true, named := ["unicode/utf8.first", "unicode/utf8.acceptRanges", "internal/bytealg.MaxLen", "strconv.ErrSyntax", "strconv.ErrRange", "internal/strconv.uint64pow10", "math/bits.deBruijn32tab", "math/bits.deBruijn64tab", "counterproof/instr.shapes"], apart := false, laid := [("math/bits.deBruijn32tab", laid_math_bits_deBruijn32tab), ("math/bits.deBruijn64tab", laid_math_bits_deBruijn64tab), ("internal/strconv.uint64pow10", laid_internal_strconv_uint64pow10), ("unicode/utf8.acceptRanges", laid_unicode_utf8_acceptRanges), ("strconv.ErrRange", laid_strconv_ErrRange), ("strconv.ErrSyntax", laid_strconv_ErrSyntax), ("counterproof/instr.shapes", laid_counterproof_instr_shapes), ("unicode/utf8.first", laid_unicode_utf8_first)] }
def MachStepsSaid : Prop := machStepsRow.holds Tryz.pinned (OpenSpec.ofChange machStepsSpec)

/-- ITS FALSE NEIGHBOUR: 'it returns false'. Refute it at one input. -/
def machStepsWrong : ChangeSpec := { name := "machSteps", fn := fun _ => fun
  | [d1, d2, d3, d4, d5] => { results := [.lit (.bool false)], args := [d1, d2, d3, d4, d5] }
  | _ => none }
def MachStepsWrongFalsely : Prop := machStepsRow.holds Tryz.pinned (OpenSpec.ofChange machStepsWrong)

/-- 'counterprooflaw09.MachMoves': WHATEVER THE INPUT: true; the input reads as it did. -/
def machMovesSpec : ChangeSpec := { name := "machMoves", fn := fun _ => fun
  | [d1, d2, d3, d4, d5] => { results := [.lit (.bool true)], args := [d1, d2, d3, d4, d5] }
  | _ => none }
def machMovesRow : OpenClaim := { program := "yteehdbbohjhnoaagreatdoor", sum := "bb2805f70db699dbb167912600942e2db4be771c5a89ee78a87821be1dc1e6e4", func := "counterproof/counterprooflaw09.MachMoves", spec := "machMoves", inPlace := ["internal/bytealg.CountString", "internal/bytealg.IndexByteString", "internal/bytealg.IndexString"], unfollowed := true, recurses := true, named := ["unicode/utf8.first", "unicode/utf8.acceptRanges", "internal/bytealg.MaxLen", "strconv.ErrSyntax", "strconv.ErrRange", "internal/strconv.uint64pow10", "math/bits.deBruijn32tab", "math/bits.deBruijn64tab", "counterproof/instr.shapes"], apart := false, laid := [("math/bits.deBruijn32tab", laid_math_bits_deBruijn32tab), ("math/bits.deBruijn64tab", laid_math_bits_deBruijn64tab), ("internal/strconv.uint64pow10", laid_internal_strconv_uint64pow10), ("unicode/utf8.acceptRanges", laid_unicode_utf8_acceptRanges), ("strconv.ErrRange", laid_strconv_ErrRange), ("strconv.ErrSyntax", laid_strconv_ErrSyntax), ("counterproof/instr.shapes", laid_counterproof_instr_shapes), ("unicode/utf8.first", laid_unicode_utf8_first)] }
def MachMovesSaid : Prop := machMovesRow.holds Tryz.pinned (OpenSpec.ofChange machMovesSpec)

/-- ITS FALSE NEIGHBOUR: 'it returns false'. Refute it at one input. -/
def machMovesWrong : ChangeSpec := { name := "machMoves", fn := fun _ => fun
  | [d1, d2, d3, d4, d5] => { results := [.lit (.bool false)], args := [d1, d2, d3, d4, d5] }
  | _ => none }
def MachMovesWrongFalsely : Prop := machMovesRow.holds Tryz.pinned (OpenSpec.ofChange machMovesWrong)

/-- 'counterprooflaw09.MachCounts': WHATEVER THE INPUT: true; the input reads as it did. -/
def machCountsSpec : ChangeSpec := { name := "machCounts", fn := fun _ => fun
  | [d] => { results := [.lit (.bool true)], args := [d] }
  | _ => none }
def machCountsRow : OpenClaim := { program := "yteehdbbohjhnoaagreatdoor", sum := "bb2805f70db699dbb167912600942e2db4be771c5a89ee78a87821be1dc1e6e4", func := "counterproof/counterprooflaw09.MachCounts", spec := "machCounts", inPlace := ["internal/bytealg.CountString", "internal/bytealg.IndexByteString", "internal/bytealg.IndexString"], unfollowed := true, recurses := true, named := ["unicode/utf8.first", "unicode/utf8.acceptRanges", "internal/bytealg.MaxLen", "strconv.ErrSyntax", "strconv.ErrRange", "internal/strconv.uint64pow10", "math/bits.deBruijn32tab", "math/bits.deBruijn64tab", "counterproof/instr.shapes"], apart := false, laid := [("math/bits.deBruijn32tab", laid_math_bits_deBruijn32tab), ("math/bits.deBruijn64tab", laid_math_bits_deBruijn64tab), ("internal/strconv.uint64pow10", laid_internal_strconv_uint64pow10), ("unicode/utf8.acceptRanges", laid_unicode_utf8_acceptRanges), ("strconv.ErrRange", laid_strconv_ErrRange), ("strconv.ErrSyntax", laid_strconv_ErrSyntax), ("counterproof/instr.shapes", laid_counterproof_instr_shapes), ("unicode/utf8.first", laid_unicode_utf8_first)] }
def MachCountsSaid : Prop := machCountsRow.holds Tryz.pinned (OpenSpec.ofChange machCountsSpec)

/-- ITS FALSE NEIGHBOUR: 'it returns false'. Refute it at one input. -/
def machCountsWrong : ChangeSpec := { name := "machCounts", fn := fun _ => fun
  | [d] => { results := [.lit (.bool false)], args := [d] }
  | _ => none }
def MachCountsWrongFalsely : Prop := machCountsRow.holds Tryz.pinned (OpenSpec.ofChange machCountsWrong)

/-- 'counterprooflaw09.MachFaults': WHATEVER THE INPUT: true; the input reads as it did. -/
def machFaultsSpec : ChangeSpec := { name := "machFaults", fn := fun _ => fun
  | [d1, d2] => { results := [.lit (.bool true)], args := [d1, d2] }
  | _ => none }
def machFaultsRow : OpenClaim := { program := "yteehdbbohjhnoaagreatdoor", sum := "bb2805f70db699dbb167912600942e2db4be771c5a89ee78a87821be1dc1e6e4", func := "counterproof/counterprooflaw09.MachFaults", spec := "machFaults", inPlace := ["internal/bytealg.CountString", "internal/bytealg.IndexByteString", "internal/bytealg.IndexString"], unfollowed := true, recurses := true, named := ["unicode/utf8.first", "unicode/utf8.acceptRanges", "internal/bytealg.MaxLen", "strconv.ErrSyntax", "strconv.ErrRange", "internal/strconv.uint64pow10", "math/bits.deBruijn32tab", "math/bits.deBruijn64tab", "counterproof/instr.shapes"], apart := false, laid := [("math/bits.deBruijn32tab", laid_math_bits_deBruijn32tab), ("math/bits.deBruijn64tab", laid_math_bits_deBruijn64tab), ("internal/strconv.uint64pow10", laid_internal_strconv_uint64pow10), ("unicode/utf8.acceptRanges", laid_unicode_utf8_acceptRanges), ("strconv.ErrRange", laid_strconv_ErrRange), ("strconv.ErrSyntax", laid_strconv_ErrSyntax), ("counterproof/instr.shapes", laid_counterproof_instr_shapes), ("unicode/utf8.first", laid_unicode_utf8_first)] }
def MachFaultsSaid : Prop := machFaultsRow.holds Tryz.pinned (OpenSpec.ofChange machFaultsSpec)

/-- ITS FALSE NEIGHBOUR: 'it returns false'. Refute it at one input. -/
def machFaultsWrong : ChangeSpec := { name := "machFaults", fn := fun _ => fun
  | [d1, d2] => { results := [.lit (.bool false)], args := [d1, d2] }
  | _ => none }
def MachFaultsWrongFalsely : Prop := machFaultsRow.holds Tryz.pinned (OpenSpec.ofChange machFaultsWrong)

/-- 'counterprooflaw09.MachWords': WHATEVER THE INPUT: true; the input reads as it did. -/
def machWordsSpec : ChangeSpec := { name := "machWords", fn := fun _ => fun
  | [d1, d2] => { results := [.lit (.bool true)], args := [d1, d2] }
  | _ => none }
def machWordsRow : OpenClaim := { program := "yteehdbbohjhnoaagreatdoor", sum := "bb2805f70db699dbb167912600942e2db4be771c5a89ee78a87821be1dc1e6e4", func := "counterproof/counterprooflaw09.MachWords", spec := "machWords", inPlace := ["internal/bytealg.CountString", "internal/bytealg.IndexByteString", "internal/bytealg.IndexString"], unfollowed := true, recurses := true, named := ["unicode/utf8.first", "unicode/utf8.acceptRanges", "internal/bytealg.MaxLen", "strconv.ErrSyntax", "strconv.ErrRange", "internal/strconv.uint64pow10", "math/bits.deBruijn32tab", "math/bits.deBruijn64tab", "counterproof/instr.shapes"], apart := false, laid := [("math/bits.deBruijn32tab", laid_math_bits_deBruijn32tab), ("math/bits.deBruijn64tab", laid_math_bits_deBruijn64tab), ("internal/strconv.uint64pow10", laid_internal_strconv_uint64pow10), ("unicode/utf8.acceptRanges", laid_unicode_utf8_acceptRanges), ("strconv.ErrRange", laid_strconv_ErrRange), ("strconv.ErrSyntax", laid_strconv_ErrSyntax), ("counterproof/instr.shapes", laid_counterproof_instr_shapes), ("unicode/utf8.first", laid_unicode_utf8_first)] }
def MachWordsSaid : Prop := machWordsRow.holds Tryz.pinned (OpenSpec.ofChange machWordsSpec)

/-- ITS FALSE NEIGHBOUR: 'it returns false'. Refute it at one input. -/
def machWordsWrong : ChangeSpec := { name := "machWords", fn := fun _ => fun
  | [d1, d2] => { results := [.lit (.bool false)], args := [d1, d2] }
  | _ => none }
def MachWordsWrongFalsely : Prop := machWordsRow.holds Tryz.pinned (OpenSpec.ofChange machWordsWrong)

/-- 'counterprooflaw09.MachOps': WHATEVER THE INPUT: true; the input reads as it did. -/
def machOpsSpec : ChangeSpec := { name := "machOps", fn := fun _ => fun
  | [d1, d2, d3] => { results := [.lit (.bool true)], args := [d1, d2, d3] }
  | _ => none }
def machOpsRow : OpenClaim := { program := "yteehdbbohjhnoaagreatdoor", sum := "bb2805f70db699dbb167912600942e2db4be771c5a89ee78a87821be1dc1e6e4", func := "counterproof/counterprooflaw09.MachOps", spec := "machOps", inPlace := ["internal/bytealg.CountString", "internal/bytealg.IndexByteString", "internal/bytealg.IndexString"], unfollowed := true, recurses := true, named := ["unicode/utf8.first", "unicode/utf8.acceptRanges", "internal/bytealg.MaxLen", "strconv.ErrSyntax", "strconv.ErrRange", "internal/strconv.uint64pow10", "math/bits.deBruijn32tab", "math/bits.deBruijn64tab", "counterproof/instr.shapes"], apart := false, laid := [("math/bits.deBruijn32tab", laid_math_bits_deBruijn32tab), ("math/bits.deBruijn64tab", laid_math_bits_deBruijn64tab), ("internal/strconv.uint64pow10", laid_internal_strconv_uint64pow10), ("unicode/utf8.acceptRanges", laid_unicode_utf8_acceptRanges), ("strconv.ErrRange", laid_strconv_ErrRange), ("strconv.ErrSyntax", laid_strconv_ErrSyntax), ("counterproof/instr.shapes", laid_counterproof_instr_shapes), ("unicode/utf8.first", laid_unicode_utf8_first)] }
def MachOpsSaid : Prop := machOpsRow.holds Tryz.pinned (OpenSpec.ofChange machOpsSpec)

/-- ITS FALSE NEIGHBOUR: 'it returns false'. Refute it at one input. -/
def machOpsWrong : ChangeSpec := { name := "machOps", fn := fun _ => fun
  | [d1, d2, d3] => { results := [.lit (.bool false)], args := [d1, d2, d3] }
  | _ => none }
def MachOpsWrongFalsely : Prop := machOpsRow.holds Tryz.pinned (OpenSpec.ofChange machOpsWrong)

/-- 'counterprooflaw09.MachBranch': WHATEVER THE INPUT: true; the input reads as it did. -/
def machBranchSpec : ChangeSpec := { name := "machBranch", fn := fun _ => fun
  | [d1, d2, d3] => { results := [.lit (.bool true)], args := [d1, d2, d3] }
  | _ => none }
def machBranchRow : OpenClaim := { program := "yteehdbbohjhnoaagreatdoor", sum := "bb2805f70db699dbb167912600942e2db4be771c5a89ee78a87821be1dc1e6e4", func := "counterproof/counterprooflaw09.MachBranch", spec := "machBranch", inPlace := ["internal/bytealg.CountString", "internal/bytealg.IndexByteString", "internal/bytealg.IndexString"], unfollowed := true, recurses := true, named := ["unicode/utf8.first", "unicode/utf8.acceptRanges", "internal/bytealg.MaxLen", "strconv.ErrSyntax", "strconv.ErrRange", "internal/strconv.uint64pow10", "math/bits.deBruijn32tab", "math/bits.deBruijn64tab", "counterproof/instr.shapes"], apart := false, laid := [("math/bits.deBruijn32tab", laid_math_bits_deBruijn32tab), ("math/bits.deBruijn64tab", laid_math_bits_deBruijn64tab), ("internal/strconv.uint64pow10", laid_internal_strconv_uint64pow10), ("unicode/utf8.acceptRanges", laid_unicode_utf8_acceptRanges), ("strconv.ErrRange", laid_strconv_ErrRange), ("strconv.ErrSyntax", laid_strconv_ErrSyntax), ("counterproof/instr.shapes", laid_counterproof_instr_shapes), ("unicode/utf8.first", laid_unicode_utf8_first)] }
def MachBranchSaid : Prop := machBranchRow.holds Tryz.pinned (OpenSpec.ofChange machBranchSpec)

/-- ITS FALSE NEIGHBOUR: 'it returns false'. Refute it at one input. -/
def machBranchWrong : ChangeSpec := { name := "machBranch", fn := fun _ => fun
  | [d1, d2, d3] => { results := [.lit (.bool false)], args := [d1, d2, d3] }
  | _ => none }
def MachBranchWrongFalsely : Prop := machBranchRow.holds Tryz.pinned (OpenSpec.ofChange machBranchWrong)

/-- 'counterprooflaw09.MachZero': WHATEVER THE INPUT: true; the input reads as it did. -/
def machZeroSpec : ChangeSpec := { name := "machZero", fn := fun _ => fun
  | [d1, d2] => { results := [.lit (.bool true)], args := [d1, d2] }
  | _ => none }
def machZeroRow : OpenClaim := { program := "yteehdbbohjhnoaagreatdoor", sum := "bb2805f70db699dbb167912600942e2db4be771c5a89ee78a87821be1dc1e6e4", func := "counterproof/counterprooflaw09.MachZero", spec := "machZero", inPlace := ["internal/bytealg.CountString", "internal/bytealg.IndexByteString", "internal/bytealg.IndexString"], unfollowed := true, recurses := true, named := ["unicode/utf8.first", "unicode/utf8.acceptRanges", "internal/bytealg.MaxLen", "strconv.ErrSyntax", "strconv.ErrRange", "internal/strconv.uint64pow10", "math/bits.deBruijn32tab", "math/bits.deBruijn64tab", "counterproof/instr.shapes"], apart := false, laid := [("math/bits.deBruijn32tab", laid_math_bits_deBruijn32tab), ("math/bits.deBruijn64tab", laid_math_bits_deBruijn64tab), ("internal/strconv.uint64pow10", laid_internal_strconv_uint64pow10), ("unicode/utf8.acceptRanges", laid_unicode_utf8_acceptRanges), ("strconv.ErrRange", laid_strconv_ErrRange), ("strconv.ErrSyntax", laid_strconv_ErrSyntax), ("counterproof/instr.shapes", laid_counterproof_instr_shapes), ("unicode/utf8.first", laid_unicode_utf8_first)] }
def MachZeroSaid : Prop := machZeroRow.holds Tryz.pinned (OpenSpec.ofChange machZeroSpec)

/-- ITS FALSE NEIGHBOUR: 'it returns false'. Refute it at one input. -/
def machZeroWrong : ChangeSpec := { name := "machZero", fn := fun _ => fun
  | [d1, d2] => { results := [.lit (.bool false)], args := [d1, d2] }
  | _ => none }
def MachZeroWrongFalsely : Prop := machZeroRow.holds Tryz.pinned (OpenSpec.ofChange machZeroWrong)

/- THE SECOND FORM. 'bulk': how many values and letters a reading holds, each counted each time it is reached (what is shared counts as often as it is met; a slice's spare places count too). A statement '..UptoSaid' is the law's where the arguments, and the package variables that the reading takes, are together of bulk at most 1048576: NARROWER than '..Said'. Prove '..Said' where nothing that the law and all that it calls make is longer than what came in: it says more and counts as full. Else prove '..UptoSaid'. A law counts once. -/
mutual
def uptoBulk {H : Type} : DataW H → Nat
  | .lit (.string bytes) => bytes.length + 1
  | .lit _ => 1
  | .nil => 1
  | .ptr d => uptoBulk d + 1
  | .slice elems spare => uptoBulkAll elems + uptoBulkAll spare + 1
  | .agg parts => uptoBulkAll parts + 1
  | .iface _ d => uptoBulk d + 1
  | .map entries => uptoBulkEntries entries + 1
  | .held _ => 1
def uptoBulkAll {H : Type} : List (DataW H) → Nat
  | [] => 0
  | d :: r => uptoBulk d + uptoBulkAll r
def uptoBulkEntries {H : Type} : List (Lit × DataW H) → Nat
  | [] => 0
  | x :: r => uptoBulkEntry x + uptoBulkEntries r
def uptoBulkEntry {H : Type} : Lit × DataW H → Nat
  | (.string bytes, d) => bytes.length + uptoBulk d + 1
  | (_, d) => uptoBulk d + 1
 end
def uptoSmall : (H : Type) → List (DataW H) → Bool := fun _ ds => decide (uptoBulkAll ds ≤ 1048576)
def OpenSpec.upto (s : _root_.Go.ChangeSpec) : _root_.Go.OpenSpec := { _root_.Go.OpenSpec.ofChange s with cond := some uptoSmall }

/-- 'counterprooflaw09.MachSteps', WHERE WHAT IT READS IS OF BULK AT MOST 1048576: true; the input reads as it did. -/
def machStepsUptoRow : OpenClaim := { program := "yteehdbbohjhnoaagreatdoor", sum := "bb2805f70db699dbb167912600942e2db4be771c5a89ee78a87821be1dc1e6e4", func := "counterproof/counterprooflaw09.MachSteps", spec := "machSteps", inPlace := ["internal/bytealg.CountString", "internal/bytealg.IndexByteString", "internal/bytealg.IndexString"], unfollowed := true, recurses := true, named := ["unicode/utf8.first", "unicode/utf8.acceptRanges", "internal/bytealg.MaxLen", "strconv.ErrSyntax", "strconv.ErrRange", "internal/strconv.uint64pow10", "math/bits.deBruijn32tab", "math/bits.deBruijn64tab", "counterproof/instr.shapes"], apart := false, laid := [("math/bits.deBruijn32tab", laid_math_bits_deBruijn32tab), ("math/bits.deBruijn64tab", laid_math_bits_deBruijn64tab), ("internal/strconv.uint64pow10", laid_internal_strconv_uint64pow10), ("unicode/utf8.acceptRanges", laid_unicode_utf8_acceptRanges), ("strconv.ErrRange", laid_strconv_ErrRange), ("strconv.ErrSyntax", laid_strconv_ErrSyntax), ("counterproof/instr.shapes", laid_counterproof_instr_shapes), ("unicode/utf8.first", laid_unicode_utf8_first)], narrowed := true }
def MachStepsUptoSaid : Prop := machStepsUptoRow.holds Tryz.pinned (OpenSpec.upto machStepsSpec)

/-- 'counterprooflaw09.MachMoves', WHERE WHAT IT READS IS OF BULK AT MOST 1048576: true; the input reads as it did. -/
def machMovesUptoRow : OpenClaim := { program := "yteehdbbohjhnoaagreatdoor", sum := "bb2805f70db699dbb167912600942e2db4be771c5a89ee78a87821be1dc1e6e4", func := "counterproof/counterprooflaw09.MachMoves", spec := "machMoves", inPlace := ["internal/bytealg.CountString", "internal/bytealg.IndexByteString", "internal/bytealg.IndexString"], unfollowed := true, recurses := true, named := ["unicode/utf8.first", "unicode/utf8.acceptRanges", "internal/bytealg.MaxLen", "strconv.ErrSyntax", "strconv.ErrRange", "internal/strconv.uint64pow10", "math/bits.deBruijn32tab", "math/bits.deBruijn64tab", "counterproof/instr.shapes"], apart := false, laid := [("math/bits.deBruijn32tab", laid_math_bits_deBruijn32tab), ("math/bits.deBruijn64tab", laid_math_bits_deBruijn64tab), ("internal/strconv.uint64pow10", laid_internal_strconv_uint64pow10), ("unicode/utf8.acceptRanges", laid_unicode_utf8_acceptRanges), ("strconv.ErrRange", laid_strconv_ErrRange), ("strconv.ErrSyntax", laid_strconv_ErrSyntax), ("counterproof/instr.shapes", laid_counterproof_instr_shapes), ("unicode/utf8.first", laid_unicode_utf8_first)], narrowed := true }
def MachMovesUptoSaid : Prop := machMovesUptoRow.holds Tryz.pinned (OpenSpec.upto machMovesSpec)

/-- 'counterprooflaw09.MachCounts', WHERE WHAT IT READS IS OF BULK AT MOST 1048576: true; the input reads as it did. -/
def machCountsUptoRow : OpenClaim := { program := "yteehdbbohjhnoaagreatdoor", sum := "bb2805f70db699dbb167912600942e2db4be771c5a89ee78a87821be1dc1e6e4", func := "counterproof/counterprooflaw09.MachCounts", spec := "machCounts", inPlace := ["internal/bytealg.CountString", "internal/bytealg.IndexByteString", "internal/bytealg.IndexString"], unfollowed := true, recurses := true, named := ["unicode/utf8.first", "unicode/utf8.acceptRanges", "internal/bytealg.MaxLen", "strconv.ErrSyntax", "strconv.ErrRange", "internal/strconv.uint64pow10", "math/bits.deBruijn32tab", "math/bits.deBruijn64tab", "counterproof/instr.shapes"], apart := false, laid := [("math/bits.deBruijn32tab", laid_math_bits_deBruijn32tab), ("math/bits.deBruijn64tab", laid_math_bits_deBruijn64tab), ("internal/strconv.uint64pow10", laid_internal_strconv_uint64pow10), ("unicode/utf8.acceptRanges", laid_unicode_utf8_acceptRanges), ("strconv.ErrRange", laid_strconv_ErrRange), ("strconv.ErrSyntax", laid_strconv_ErrSyntax), ("counterproof/instr.shapes", laid_counterproof_instr_shapes), ("unicode/utf8.first", laid_unicode_utf8_first)], narrowed := true }
def MachCountsUptoSaid : Prop := machCountsUptoRow.holds Tryz.pinned (OpenSpec.upto machCountsSpec)

/-- 'counterprooflaw09.MachFaults', WHERE WHAT IT READS IS OF BULK AT MOST 1048576: true; the input reads as it did. -/
def machFaultsUptoRow : OpenClaim := { program := "yteehdbbohjhnoaagreatdoor", sum := "bb2805f70db699dbb167912600942e2db4be771c5a89ee78a87821be1dc1e6e4", func := "counterproof/counterprooflaw09.MachFaults", spec := "machFaults", inPlace := ["internal/bytealg.CountString", "internal/bytealg.IndexByteString", "internal/bytealg.IndexString"], unfollowed := true, recurses := true, named := ["unicode/utf8.first", "unicode/utf8.acceptRanges", "internal/bytealg.MaxLen", "strconv.ErrSyntax", "strconv.ErrRange", "internal/strconv.uint64pow10", "math/bits.deBruijn32tab", "math/bits.deBruijn64tab", "counterproof/instr.shapes"], apart := false, laid := [("math/bits.deBruijn32tab", laid_math_bits_deBruijn32tab), ("math/bits.deBruijn64tab", laid_math_bits_deBruijn64tab), ("internal/strconv.uint64pow10", laid_internal_strconv_uint64pow10), ("unicode/utf8.acceptRanges", laid_unicode_utf8_acceptRanges), ("strconv.ErrRange", laid_strconv_ErrRange), ("strconv.ErrSyntax", laid_strconv_ErrSyntax), ("counterproof/instr.shapes", laid_counterproof_instr_shapes), ("unicode/utf8.first", laid_unicode_utf8_first)], narrowed := true }
def MachFaultsUptoSaid : Prop := machFaultsUptoRow.holds Tryz.pinned (OpenSpec.upto machFaultsSpec)

/-- 'counterprooflaw09.MachWords', WHERE WHAT IT READS IS OF BULK AT MOST 1048576: true; the input reads as it did. -/
def machWordsUptoRow : OpenClaim := { program := "yteehdbbohjhnoaagreatdoor", sum := "bb2805f70db699dbb167912600942e2db4be771c5a89ee78a87821be1dc1e6e4", func := "counterproof/counterprooflaw09.MachWords", spec := "machWords", inPlace := ["internal/bytealg.CountString", "internal/bytealg.IndexByteString", "internal/bytealg.IndexString"], unfollowed := true, recurses := true, named := ["unicode/utf8.first", "unicode/utf8.acceptRanges", "internal/bytealg.MaxLen", "strconv.ErrSyntax", "strconv.ErrRange", "internal/strconv.uint64pow10", "math/bits.deBruijn32tab", "math/bits.deBruijn64tab", "counterproof/instr.shapes"], apart := false, laid := [("math/bits.deBruijn32tab", laid_math_bits_deBruijn32tab), ("math/bits.deBruijn64tab", laid_math_bits_deBruijn64tab), ("internal/strconv.uint64pow10", laid_internal_strconv_uint64pow10), ("unicode/utf8.acceptRanges", laid_unicode_utf8_acceptRanges), ("strconv.ErrRange", laid_strconv_ErrRange), ("strconv.ErrSyntax", laid_strconv_ErrSyntax), ("counterproof/instr.shapes", laid_counterproof_instr_shapes), ("unicode/utf8.first", laid_unicode_utf8_first)], narrowed := true }
def MachWordsUptoSaid : Prop := machWordsUptoRow.holds Tryz.pinned (OpenSpec.upto machWordsSpec)

/-- 'counterprooflaw09.MachOps', WHERE WHAT IT READS IS OF BULK AT MOST 1048576: true; the input reads as it did. -/
def machOpsUptoRow : OpenClaim := { program := "yteehdbbohjhnoaagreatdoor", sum := "bb2805f70db699dbb167912600942e2db4be771c5a89ee78a87821be1dc1e6e4", func := "counterproof/counterprooflaw09.MachOps", spec := "machOps", inPlace := ["internal/bytealg.CountString", "internal/bytealg.IndexByteString", "internal/bytealg.IndexString"], unfollowed := true, recurses := true, named := ["unicode/utf8.first", "unicode/utf8.acceptRanges", "internal/bytealg.MaxLen", "strconv.ErrSyntax", "strconv.ErrRange", "internal/strconv.uint64pow10", "math/bits.deBruijn32tab", "math/bits.deBruijn64tab", "counterproof/instr.shapes"], apart := false, laid := [("math/bits.deBruijn32tab", laid_math_bits_deBruijn32tab), ("math/bits.deBruijn64tab", laid_math_bits_deBruijn64tab), ("internal/strconv.uint64pow10", laid_internal_strconv_uint64pow10), ("unicode/utf8.acceptRanges", laid_unicode_utf8_acceptRanges), ("strconv.ErrRange", laid_strconv_ErrRange), ("strconv.ErrSyntax", laid_strconv_ErrSyntax), ("counterproof/instr.shapes", laid_counterproof_instr_shapes), ("unicode/utf8.first", laid_unicode_utf8_first)], narrowed := true }
def MachOpsUptoSaid : Prop := machOpsUptoRow.holds Tryz.pinned (OpenSpec.upto machOpsSpec)

/-- 'counterprooflaw09.MachBranch', WHERE WHAT IT READS IS OF BULK AT MOST 1048576: true; the input reads as it did. -/
def machBranchUptoRow : OpenClaim := { program := "yteehdbbohjhnoaagreatdoor", sum := "bb2805f70db699dbb167912600942e2db4be771c5a89ee78a87821be1dc1e6e4", func := "counterproof/counterprooflaw09.MachBranch", spec := "machBranch", inPlace := ["internal/bytealg.CountString", "internal/bytealg.IndexByteString", "internal/bytealg.IndexString"], unfollowed := true, recurses := true, named := ["unicode/utf8.first", "unicode/utf8.acceptRanges", "internal/bytealg.MaxLen", "strconv.ErrSyntax", "strconv.ErrRange", "internal/strconv.uint64pow10", "math/bits.deBruijn32tab", "math/bits.deBruijn64tab", "counterproof/instr.shapes"], apart := false, laid := [("math/bits.deBruijn32tab", laid_math_bits_deBruijn32tab), ("math/bits.deBruijn64tab", laid_math_bits_deBruijn64tab), ("internal/strconv.uint64pow10", laid_internal_strconv_uint64pow10), ("unicode/utf8.acceptRanges", laid_unicode_utf8_acceptRanges), ("strconv.ErrRange", laid_strconv_ErrRange), ("strconv.ErrSyntax", laid_strconv_ErrSyntax), ("counterproof/instr.shapes", laid_counterproof_instr_shapes), ("unicode/utf8.first", laid_unicode_utf8_first)], narrowed := true }
def MachBranchUptoSaid : Prop := machBranchUptoRow.holds Tryz.pinned (OpenSpec.upto machBranchSpec)

/-- 'counterprooflaw09.MachZero', WHERE WHAT IT READS IS OF BULK AT MOST 1048576: true; the input reads as it did. -/
def machZeroUptoRow : OpenClaim := { program := "yteehdbbohjhnoaagreatdoor", sum := "bb2805f70db699dbb167912600942e2db4be771c5a89ee78a87821be1dc1e6e4", func := "counterproof/counterprooflaw09.MachZero", spec := "machZero", inPlace := ["internal/bytealg.CountString", "internal/bytealg.IndexByteString", "internal/bytealg.IndexString"], unfollowed := true, recurses := true, named := ["unicode/utf8.first", "unicode/utf8.acceptRanges", "internal/bytealg.MaxLen", "strconv.ErrSyntax", "strconv.ErrRange", "internal/strconv.uint64pow10", "math/bits.deBruijn32tab", "math/bits.deBruijn64tab", "counterproof/instr.shapes"], apart := false, laid := [("math/bits.deBruijn32tab", laid_math_bits_deBruijn32tab), ("math/bits.deBruijn64tab", laid_math_bits_deBruijn64tab), ("internal/strconv.uint64pow10", laid_internal_strconv_uint64pow10), ("unicode/utf8.acceptRanges", laid_unicode_utf8_acceptRanges), ("strconv.ErrRange", laid_strconv_ErrRange), ("strconv.ErrSyntax", laid_strconv_ErrSyntax), ("counterproof/instr.shapes", laid_counterproof_instr_shapes), ("unicode/utf8.first", laid_unicode_utf8_first)], narrowed := true }
def MachZeroUptoSaid : Prop := machZeroUptoRow.holds Tryz.pinned (OpenSpec.upto machZeroSpec)

end Rows
end Go.Proofs.YteehdbbohjhnoaaGreatDoor
