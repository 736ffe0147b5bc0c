/-
  Layer 09: instructions that move a number do not change it: the context.
-/
import Derived.Test.YteehdbbohjhnoaaGreatDoorMach
namespace Go.Proofs.YteehdbbohjhnoaaGreatDoor.MachMoves
open Go.Xq Go.RowKit Go.Proofs.YteehdbbohjhnoaaGreatDoor
set_option maxRecDepth 1000000
def kn (p : Int) (q : Int) (I : Nat → Int) : Prop := (-9223372036854775808 ≤ I 1 ∧ I 1 ≤ 9223372036854775807) ∧ pickN (I 1) 7 = p ∧ (-9223372036854775808 ≤ I 2 ∧ I 2 ≤ 9223372036854775807) ∧ pickN (I 2) 7 = q ∧ (-9223372036854775808 ≤ I 3 ∧ I 3 ≤ 9223372036854775807) ∧ pickN (I 3) 10 = I 5 ∧ (-9223372036854775808 ≤ I 4 ∧ I 4 ≤ 9223372036854775807) ∧ pickN (I 4) 200 = I 6
def hks (p : Int) (q : Int) : List Hook :=
  [⟨11, [], .bool true⟩,
   ⟨13, [.int .i64 (.var 1), .int .i64 (.lit 7)], .int .i64 (.lit p)⟩,
   ⟨13, [.int .i64 (.var 2), .int .i64 (.lit 7)], .int .i64 (.lit q)⟩,
   ⟨13, [.int .i64 (.var 3), .int .i64 (.lit 10)], .int .i64 (.var 5)⟩,
   ⟨13, [.int .i64 (.var 4), .int .i64 (.lit 200)], .int .i64 (.var 6)⟩]
noncomputable def cx (p : Int) (q : Int) (F : List Fact) (b : Nat) (h0 : Nat → Option Obj) : Cx := cxOf Tryz.prog.funcs Tryz.prog.types exts 300 300 F (hks p q) (kn p q) soks b h0
theorem cx_ok (p : Int) (q : Int) (F : List Fact) {W : World} (h : laidMetH Tryz.prog Rows.machMovesRow.laid W) : (cx p q F W.heap.size fun k => W.heap[k]?).Ok Tryz.prog := by
  refine cxOf_ok cx_names cx_mixed exts_ok ?_ soks_ok
  intro hk hm E xs hK ha
  obtain ⟨r0, e0, r1, e1, r2, e2, r3, e3⟩ := hK
  simp only [hks, List.mem_cons, List.not_mem_nil, or_false] at hm
  rcases hm with rfl | rfl | rfl | rfl | rfl
  · have hx : xs = [] := by simpa [denL, eq_comm] using ha
    subst hx
    exact ⟨.bool true, rfl, fun w hb hs => awake_at h w hb hs⟩
  · have hx : xs = [.int .i64 (E.ints 1), .int .i64 7] := by simpa [denL, SV.den, SI.den, eq_comm] using ha
    subst hx
    refine ⟨.int .i64 p, rfl, fun w _ _ => Calls.stay ?_⟩
    have := pick_any (E.ints 1) 7 r0 (by decide) w
    rw [e0] at this
    exact this
  · have hx : xs = [.int .i64 (E.ints 2), .int .i64 7] := by simpa [denL, SV.den, SI.den, eq_comm] using ha
    subst hx
    refine ⟨.int .i64 q, rfl, fun w _ _ => Calls.stay ?_⟩
    have := pick_any (E.ints 2) 7 r1 (by decide) w
    rw [e1] at this
    exact this
  · have hx : xs = [.int .i64 (E.ints 3), .int .i64 10] := by simpa [denL, SV.den, SI.den, eq_comm] using ha
    subst hx
    refine ⟨.int .i64 (E.ints 5), rfl, fun w _ _ => Calls.stay ?_⟩
    have := pick_any (E.ints 3) 10 r2 (by decide) w
    rw [e2] at this
    exact this
  · have hx : xs = [.int .i64 (E.ints 4), .int .i64 200] := by simpa [denL, SV.den, SI.den, eq_comm] using ha
    subst hx
    refine ⟨.int .i64 (E.ints 6), rfl, fun w _ _ => Calls.stay ?_⟩
    have := pick_any (E.ints 4) 200 r3 (by decide) w
    rw [e3] at this
    exact this
def fs : List Fact := [⟨.geq, .bin .mul .i64 (.lit 8) (.var 5), .lit (-2047), true⟩,
  ⟨.leq, .bin .mul .i64 (.lit 8) (.var 5), .lit 2047, true⟩,
  ⟨.geq, .bin .mul .i64 (.lit (-8)) (.bin .add .i64 (.lit 1) (.var 6)), .lit (-2047), true⟩,
  ⟨.leq, .bin .mul .i64 (.lit (-8)) (.bin .add .i64 (.lit 1) (.var 6)), .lit 2047, true⟩,
  ⟨.geq, .bin .rem .i64 (.bin .add .i64 (.bin .mul .i64 (.lit 8) (.var 5)) (.lit 8)) (.lit 80), .lit (-2047), true⟩,
  ⟨.leq, .bin .rem .i64 (.bin .add .i64 (.bin .mul .i64 (.lit 8) (.var 5)) (.lit 8)) (.lit 80), .lit 2047, true⟩,
  ⟨.geq, .bin .sub .i64 (.bin .mul .i64 (.lit (-8)) (.bin .add .i64 (.lit 1) (.var 6))) (.lit 8), .lit (-2047), true⟩,
  ⟨.leq, .bin .sub .i64 (.bin .mul .i64 (.lit (-8)) (.bin .add .i64 (.lit 1) (.var 6))) (.lit 8), .lit 2047, true⟩,
  ⟨.neq, .bin .rem .i64 (.bin .add .i64 (.lit 65536) (.bin .mul .i64 (.lit 8) (.var 5))) (.lit 8), .lit 0, false⟩,
  ⟨.geq, .bin .add .i64 (.lit 65536) (.bin .mul .i64 (.lit 8) (.var 5)), .lit 65536, true⟩,
  ⟨.lss, .bin .add .i64 (.lit 65536) (.bin .mul .i64 (.lit 8) (.var 5)), .lit 65616, true⟩,
  ⟨.lss, .bin .quo .i64 (.bin .sub .i64 (.bin .add .i64 (.lit 65536) (.bin .mul .i64 (.lit 8) (.var 5))) (.lit 65536)) (.lit 8), .lit 0, false⟩,
  ⟨.neq, .bin .rem .i64 (.bin .add .i64 (.lit 65536) (.bin .rem .i64 (.bin .add .i64 (.bin .mul .i64 (.lit 8) (.var 5)) (.lit 8)) (.lit 80))) (.lit 8), .lit 0, false⟩,
  ⟨.geq, .bin .add .i64 (.lit 65536) (.bin .rem .i64 (.bin .add .i64 (.bin .mul .i64 (.lit 8) (.var 5)) (.lit 8)) (.lit 80)), .lit 65536, true⟩,
  ⟨.lss, .bin .add .i64 (.lit 65536) (.bin .rem .i64 (.bin .add .i64 (.bin .mul .i64 (.lit 8) (.var 5)) (.lit 8)) (.lit 80)), .lit 65616, true⟩,
  ⟨.lss, .bin .quo .i64 (.bin .sub .i64 (.bin .add .i64 (.lit 65536) (.bin .rem .i64 (.bin .add .i64 (.bin .mul .i64 (.lit 8) (.var 5)) (.lit 8)) (.lit 80))) (.lit 65536)) (.lit 8), .lit 0, false⟩,
  ⟨.neq, .bin .rem .i64 (.bin .add .i64 (.lit 1073741824) (.bin .mul .i64 (.lit (-8)) (.bin .add .i64 (.lit 1) (.var 6)))) (.lit 8), .lit 0, false⟩,
  ⟨.geq, .bin .add .i64 (.lit 1073741824) (.bin .mul .i64 (.lit (-8)) (.bin .add .i64 (.lit 1) (.var 6))), .lit 65536, true⟩,
  ⟨.lss, .bin .add .i64 (.lit 1073741824) (.bin .mul .i64 (.lit (-8)) (.bin .add .i64 (.lit 1) (.var 6))), .lit 65616, false⟩,
  ⟨.geq, .bin .add .i64 (.lit 1073741824) (.bin .mul .i64 (.lit (-8)) (.bin .add .i64 (.lit 1) (.var 6))), .lit 1073709056, true⟩,
  ⟨.lss, .bin .add .i64 (.lit 1073741824) (.bin .mul .i64 (.lit (-8)) (.bin .add .i64 (.lit 1) (.var 6))), .lit 1073741824, true⟩,
  ⟨.lss, .bin .add .i64 (.lit 10) (.bin .quo .i64 (.bin .sub .i64 (.bin .add .i64 (.lit 1073741824) (.bin .mul .i64 (.lit (-8)) (.bin .add .i64 (.lit 1) (.var 6)))) (.lit 1073709056)) (.lit 8)), .lit 0, false⟩,
  ⟨.neq, .bin .rem .i64 (.bin .add .i64 (.lit 1073741824) (.bin .sub .i64 (.bin .mul .i64 (.lit (-8)) (.bin .add .i64 (.lit 1) (.var 6))) (.lit 8))) (.lit 8), .lit 0, false⟩,
  ⟨.geq, .bin .add .i64 (.lit 1073741824) (.bin .sub .i64 (.bin .mul .i64 (.lit (-8)) (.bin .add .i64 (.lit 1) (.var 6))) (.lit 8)), .lit 65536, true⟩,
  ⟨.lss, .bin .add .i64 (.lit 1073741824) (.bin .sub .i64 (.bin .mul .i64 (.lit (-8)) (.bin .add .i64 (.lit 1) (.var 6))) (.lit 8)), .lit 65616, false⟩,
  ⟨.geq, .bin .add .i64 (.lit 1073741824) (.bin .sub .i64 (.bin .mul .i64 (.lit (-8)) (.bin .add .i64 (.lit 1) (.var 6))) (.lit 8)), .lit 1073709056, true⟩,
  ⟨.lss, .bin .add .i64 (.lit 1073741824) (.bin .sub .i64 (.bin .mul .i64 (.lit (-8)) (.bin .add .i64 (.lit 1) (.var 6))) (.lit 8)), .lit 1073741824, true⟩,
  ⟨.lss, .bin .add .i64 (.lit 10) (.bin .quo .i64 (.bin .sub .i64 (.bin .add .i64 (.lit 1073741824) (.bin .sub .i64 (.bin .mul .i64 (.lit (-8)) (.bin .add .i64 (.lit 1) (.var 6))) (.lit 8))) (.lit 1073709056)) (.lit 8)), .lit 0, false⟩,
  ⟨.eql, .bin .add .i64 (.lit 65536) (.bin .mul .i64 (.lit 8) (.var 5)), .bin .add .i64 (.lit 1073741824) (.bin .mul .i64 (.lit (-8)) (.bin .add .i64 (.lit 1) (.var 6))), false⟩,
  ⟨.eql, .bin .add .i64 (.lit 1073741824) (.bin .mul .i64 (.lit (-8)) (.bin .add .i64 (.lit 1) (.var 6))), .bin .add .i64 (.lit 65536) (.bin .mul .i64 (.lit 8) (.var 5)), false⟩,
  ⟨.eql, .bin .add .i64 (.lit 65536) (.bin .mul .i64 (.lit 8) (.var 5)), .bin .add .i64 (.lit 65536) (.bin .rem .i64 (.bin .add .i64 (.bin .mul .i64 (.lit 8) (.var 5)) (.lit 8)) (.lit 80)), false⟩,
  ⟨.eql, .bin .add .i64 (.lit 65536) (.bin .rem .i64 (.bin .add .i64 (.bin .mul .i64 (.lit 8) (.var 5)) (.lit 8)) (.lit 80)), .bin .add .i64 (.lit 65536) (.bin .mul .i64 (.lit 8) (.var 5)), false⟩,
  ⟨.eql, .bin .add .i64 (.lit 65536) (.bin .mul .i64 (.lit 8) (.var 5)), .bin .add .i64 (.lit 1073741824) (.bin .sub .i64 (.bin .mul .i64 (.lit (-8)) (.bin .add .i64 (.lit 1) (.var 6))) (.lit 8)), false⟩,
  ⟨.eql, .bin .add .i64 (.lit 1073741824) (.bin .sub .i64 (.bin .mul .i64 (.lit (-8)) (.bin .add .i64 (.lit 1) (.var 6))) (.lit 8)), .bin .add .i64 (.lit 65536) (.bin .mul .i64 (.lit 8) (.var 5)), false⟩,
  ⟨.eql, .bin .add .i64 (.lit 1073741824) (.bin .mul .i64 (.lit (-8)) (.bin .add .i64 (.lit 1) (.var 6))), .bin .add .i64 (.lit 65536) (.bin .rem .i64 (.bin .add .i64 (.bin .mul .i64 (.lit 8) (.var 5)) (.lit 8)) (.lit 80)), false⟩,
  ⟨.eql, .bin .add .i64 (.lit 65536) (.bin .rem .i64 (.bin .add .i64 (.bin .mul .i64 (.lit 8) (.var 5)) (.lit 8)) (.lit 80)), .bin .add .i64 (.lit 1073741824) (.bin .mul .i64 (.lit (-8)) (.bin .add .i64 (.lit 1) (.var 6))), false⟩,
  ⟨.eql, .bin .add .i64 (.lit 1073741824) (.bin .mul .i64 (.lit (-8)) (.bin .add .i64 (.lit 1) (.var 6))), .bin .add .i64 (.lit 1073741824) (.bin .sub .i64 (.bin .mul .i64 (.lit (-8)) (.bin .add .i64 (.lit 1) (.var 6))) (.lit 8)), false⟩,
  ⟨.eql, .bin .add .i64 (.lit 1073741824) (.bin .sub .i64 (.bin .mul .i64 (.lit (-8)) (.bin .add .i64 (.lit 1) (.var 6))) (.lit 8)), .bin .add .i64 (.lit 1073741824) (.bin .mul .i64 (.lit (-8)) (.bin .add .i64 (.lit 1) (.var 6))), false⟩]
noncomputable def run (p : Int) (q : Int)  (F : List Fact) (b : Nat) (h0 : Nat → Option Obj) : Bool :=
  isTrueX (callX (cx p q F b h0) (codeX (cx p q F b h0) 3000) 4 [.int .i64 (.var 0), .int .i64 (.var 1), .int .i64 (.var 2), .int .i64 (.var 3), .int .i64 (.var 4)] (roH (vsA b h0)) (cx p q F b h0).G)
end Go.Proofs.YteehdbbohjhnoaaGreatDoor.MachMoves
