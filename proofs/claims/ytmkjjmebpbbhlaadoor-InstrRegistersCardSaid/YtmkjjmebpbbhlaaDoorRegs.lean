/-
  Layer 7: what is read and written is of the registers that there are: the context.
-/
import Derived.Test.YtmkjjmebpbbhlaaDoorReg
namespace Go.Proofs.YtmkjjmebpbbhlaaDoor.InstrRegisters
open Go.Xq Go.RowKit Go.Proofs.YtmkjjmebpbbhlaaDoor
set_option maxRecDepth 1000000
def kn (p q : Int) (I : Nat → Int) : Prop := (-9223372036854775808 ≤ I 0 ∧ I 0 ≤ 9223372036854775807) ∧ pickN (I 0) 28 = p ∧ (-9223372036854775808 ≤ I 1 ∧ I 1 ≤ 9223372036854775807) ∧ pickN (I 1) 32 = I 10 ∧ (-9223372036854775808 ≤ I 2 ∧ I 2 ≤ 9223372036854775807) ∧ pickN (I 2) 32 = I 11 ∧ (-9223372036854775808 ≤ I 3 ∧ I 3 ≤ 9223372036854775807) ∧ pickN (I 3) 32 = I 12 ∧ (-9223372036854775808 ≤ I 4 ∧ I 4 ≤ 9223372036854775807) ∧ pickN (I 4) 4095 = I 13 ∧ (-9223372036854775808 ≤ I 6 ∧ I 6 ≤ 9223372036854775807) ∧ pickN (I 6) 1000 = I 14 ∧ (-9223372036854775808 ≤ I 5 ∧ I 5 ≤ 9223372036854775807) ∧ pickN (I 5) 3 = q
def kq (I : Nat → Int) (Q : Nat → Value) : Prop := Q 1000 = nameOf (I 4)
def hks (p q : Int) : List Hook :=
  [⟨9, [], .bool true⟩,
   ⟨25, [.int .i64 (.var 4)], .ostr 1000⟩,
   ⟨23, [.ostr 1000], .bool true⟩,
   ⟨20, [.int .i64 (.var 0), .int .i64 (.lit 28)], .int .i64 (.lit p)⟩,
   ⟨20, [.int .i64 (.var 1), .int .i64 (.lit 32)], .int .i64 (.var 10)⟩,
   ⟨20, [.int .i64 (.var 2), .int .i64 (.lit 32)], .int .i64 (.var 11)⟩,
   ⟨20, [.int .i64 (.var 3), .int .i64 (.lit 32)], .int .i64 (.var 12)⟩,
   ⟨20, [.int .i64 (.var 4), .int .i64 (.lit 4095)], .int .i64 (.var 13)⟩,
   ⟨20, [.int .i64 (.var 6), .int .i64 (.lit 1000)], .int .i64 (.var 14)⟩,
   ⟨20, [.int .i64 (.var 5), .int .i64 (.lit 3)], .int .i64 (.lit q)⟩]
noncomputable def cx (p q : Int) (F : List Fact) (b : Nat) (h0 : Nat → Option Obj) : Cx := cxOf Tryd.prog.funcs Tryd.prog.types exts 300 300 F (hks p q) (kn p q) soks b h0 kq
theorem cx_ok (p q : Int) (F : List Fact) {W : World} (h : laidMetH Tryd.prog Rows.instrRegistersRow.laid W) : (cx p q F W.heap.size fun k => W.heap[k]?).Ok Tryd.prog := by
  refine cxOf_ok cx_names cx_mixed exts_ok ?_ soks_ok
  intro hk hm E xs hK ha
  obtain ⟨hq, r0, e0, r1, e1, r2, e2, r3, e3, r4, e4, r5, e5, r6, e6⟩ := hK
  have hq' : E.opq 1000 = nameOf (E.ints 4) := hq
  simp only [hks, List.mem_cons, List.not_mem_nil, or_false] at hm
  rcases hm with rfl | rfl | rfl | rfl | rfl | rfl | rfl | rfl | rfl | rfl
  · have hx : xs = [] := by simpa [denL, eq_comm] using ha
    subst hx
    exact ⟨.bool true, rfl, fun w hb hs => awake_at h w hb hs⟩
  · have hx : xs = [.int .i64 (E.ints 4)] := by simpa [denL, SV.den, SI.den, eq_comm] using ha
    subst hx
    exact ⟨nameOf (E.ints 4), by simp only [SV.den, hq']; rfl, fun w hb hs => name_at (E.ints 4) r4 w hb hs⟩
  · have hx : xs = [nameOf (E.ints 4)] := by
      have h1 : (SV.ostr 1000).den E = some (nameOf (E.ints 4)) := by simp only [SV.den, hq']; rfl
      simp only [denL, h1, Option.some.injEq] at ha
      exact ha.symm
    subst hx
    exact ⟨.bool true, rfl, fun w hb hs => label_at (E.ints 4) w hb hs⟩
  · have hx : xs = [.int .i64 (E.ints 0), .int .i64 28] := by simpa [denL, SV.den, SI.den, eq_comm] using ha
    subst hx
    refine ⟨.int .i64 p, rfl, fun w _ _ => Calls.stay ?_⟩
    have := pick_any (E.ints 0) 28 r0 (by decide) w
    rw [e0] at this
    exact this
  · have hx : xs = [.int .i64 (E.ints 1), .int .i64 32] := by simpa [denL, SV.den, SI.den, eq_comm] using ha
    subst hx
    refine ⟨.int .i64 (E.ints 10), rfl, fun w _ _ => Calls.stay ?_⟩
    have := pick_any (E.ints 1) 32 r1 (by decide) w
    rw [e1] at this
    exact this
  · have hx : xs = [.int .i64 (E.ints 2), .int .i64 32] := by simpa [denL, SV.den, SI.den, eq_comm] using ha
    subst hx
    refine ⟨.int .i64 (E.ints 11), rfl, fun w _ _ => Calls.stay ?_⟩
    have := pick_any (E.ints 2) 32 r2 (by decide) w
    rw [e2] at this
    exact this
  · have hx : xs = [.int .i64 (E.ints 3), .int .i64 32] := by simpa [denL, SV.den, SI.den, eq_comm] using ha
    subst hx
    refine ⟨.int .i64 (E.ints 12), rfl, fun w _ _ => Calls.stay ?_⟩
    have := pick_any (E.ints 3) 32 r3 (by decide) w
    rw [e3] at this
    exact this
  · have hx : xs = [.int .i64 (E.ints 4), .int .i64 4095] := by simpa [denL, SV.den, SI.den, eq_comm] using ha
    subst hx
    refine ⟨.int .i64 (E.ints 13), rfl, fun w _ _ => Calls.stay ?_⟩
    have := pick_any (E.ints 4) 4095 r4 (by decide) w
    rw [e4] at this
    exact this
  · have hx : xs = [.int .i64 (E.ints 6), .int .i64 1000] := by simpa [denL, SV.den, SI.den, eq_comm] using ha
    subst hx
    refine ⟨.int .i64 (E.ints 14), rfl, fun w _ _ => Calls.stay ?_⟩
    have := pick_any (E.ints 6) 1000 r5 (by decide) w
    rw [e5] at this
    exact this
  · have hx : xs = [.int .i64 (E.ints 5), .int .i64 3] := by simpa [denL, SV.den, SI.den, eq_comm] using ha
    subst hx
    refine ⟨.int .i64 q, rfl, fun w _ _ => Calls.stay ?_⟩
    have := pick_any (E.ints 5) 3 r6 (by decide) w
    rw [e6] at this
    exact this
def fu : List Fact := [⟨.geq, .var 10, .lit 0, true⟩,
  ⟨.lss, .var 10, .lit 32, true⟩,
  ⟨.gtr, .var 10, .lit 31, false⟩,
  ⟨.lss, .var 10, .lit 0, false⟩,
  ⟨.geq, .var 11, .lit 0, true⟩,
  ⟨.lss, .var 11, .lit 32, true⟩,
  ⟨.gtr, .var 11, .lit 31, false⟩,
  ⟨.lss, .var 11, .lit 0, false⟩,
  ⟨.geq, .var 12, .lit 0, true⟩,
  ⟨.lss, .var 12, .lit 32, true⟩,
  ⟨.gtr, .var 12, .lit 31, false⟩,
  ⟨.lss, .var 12, .lit 0, false⟩,
  ⟨.geq, .bin .add .i64 (.lit 32) (.var 14), .lit 0, true⟩,
  ⟨.lss, .bin .add .i64 (.lit 32) (.var 14), .lit 32, false⟩,
  ⟨.geq, .bin .sub .i64 (.var 13) (.lit 2047), .lit (-2047), true⟩,
  ⟨.leq, .bin .sub .i64 (.var 13) (.lit 2047), .lit 2047, true⟩,
  ⟨.geq, .bin .sub .i64 (.lit 0) (.bin .add .i64 (.lit 32) (.var 14)), .lit 0, false⟩,
  ⟨.lss, .bin .sub .i64 (.lit 0) (.bin .add .i64 (.lit 32) (.var 14)), .lit 32, true⟩,
  ⟨.eql, .bin .add .i64 (.lit 32) (.var 14), .lit 0, false⟩,
  ⟨.eql, .bin .sub .i64 (.lit 0) (.bin .add .i64 (.lit 32) (.var 14)), .lit 0, false⟩,
  ⟨.neq, .bin .add .i64 (.lit 32) (.var 14), .lit 0, true⟩,
  ⟨.neq, .bin .sub .i64 (.lit 0) (.bin .add .i64 (.lit 32) (.var 14)), .lit 0, true⟩]
def fa (x : Bool) : List Fact := [⟨.neq, .var 11, .lit 0, !x⟩, ⟨.lss, .var 11, .lit 1, x⟩]
def fb (x : Bool) : List Fact := [⟨.neq, .var 12, .lit 0, !x⟩, ⟨.lss, .var 12, .lit 1, x⟩]
def fe (x : Bool) : List Fact := [⟨.eql, .var 12, .var 11, x⟩, ⟨.eql, .var 11, .var 12, x⟩]
noncomputable def run (p q : Int) (F : List Fact) (b : Nat) (h0 : Nat → Option Obj) : Bool :=
  isTrueX (callX (cx p q F b h0) (codeX (cx p q F b h0) 3000) 6 [.agg [.int .i64 (.var 0), .int .i64 (.var 1), .int .i64 (.var 2), .int .i64 (.var 3), .int .i64 (.var 4), .ostr 999], .int .i64 (.var 5), .int .i64 (.var 6)] (roH (vsA b h0)) (cx p q F b h0).G)
end Go.Proofs.YtmkjjmebpbbhlaaDoor.InstrRegisters
