/-
  Layer 06: what was stored is told, at its place and nowhere else: the context.
-/
import Derived.Test.YtggonamheakkkaaGreatDoorArrKQ
namespace Go.Proofs.YtggonamheakkkaaGreatDoor.EvalArrays
open Go.Xq Go.RowKit Go.Proofs.YtggonamheakkkaaGreatDoor
set_option maxRecDepth 1000000
noncomputable def kn (p : Int) (q : SI) (I : Nat → Int) : Prop := (-9223372036854775808 ≤ I 0 ∧ I 0 ≤ 9223372036854775807) ∧ pickN (I 0) 14 = p ∧ (-9223372036854775808 ≤ I 1 ∧ I 1 ≤ 9223372036854775807) ∧ pickN (I 1) 10 = q.den I
noncomputable def hks (p : Int) (q : SI) : List Hook :=
  [⟨11, [], .bool true⟩,
   ⟨15, [.int .i64 (.var 0), .int .i64 (.lit 14)], .int .i64 (.lit p)⟩,
   ⟨15, [.int .i64 (.var 1), .int .i64 (.lit 10)], .int .i64 q⟩]
noncomputable def cx (p : Int) (q : SI) (F : List Fact) (b : Nat) (h0 : Nat → Option Obj) : Cx := cxOf Tryz.prog.funcs Tryz.prog.types exts 300 300 F (hks p q) (kn p q) soks b h0 (dfs := dfs) (parts := ArrK.ps)
theorem cx_ok (p : Int) (q : SI) (F : List Fact) {W : World} (h : laidMetH Tryz.prog Rows.evalArraysRow.laid W) : (cx p q F W.heap.size fun k => W.heap[k]?).Ok Tryz.prog := by
  refine cxOf_ok cx_names cx_mixed exts_ok ?_ soks_ok (hparts := fun p hp => ArrK.parts_ok W.heap.size (fun k => W.heap[k]?) ⟨rfl, rfl, rfl, rfl⟩ p hp)
  intro hk hm E xs hK ha
  obtain ⟨-, r0, e0, r1, e1⟩ := hK
  simp only [hks, List.mem_cons, List.not_mem_nil, or_false] at hm
  rcases hm with rfl | rfl | rfl
  · have hx : xs = [] := by simpa [denL, eq_comm] using ha
    subst hx
    exact ⟨.bool true, rfl, fun w hb hs => awake_at h w hb hs⟩
  · have hx : xs = [.int .i64 (E.ints 0), .int .i64 14] := by simpa [denL, SV.den, SI.den, eq_comm] using ha
    subst hx
    refine ⟨.int .i64 p, rfl, fun w _ _ => Calls.stay ?_⟩
    have := pick_any (E.ints 0) 14 r0 (by decide) w
    rw [e0] at this
    exact this
  · have hx : xs = [.int .i64 (E.ints 1), .int .i64 10] := by simpa [denL, SV.den, SI.den, eq_comm] using ha
    subst hx
    refine ⟨.int .i64 (q.den E.ints), rfl, fun w _ _ => Calls.stay ?_⟩
    have := pick_any (E.ints 1) 10 r1 (by decide) w
    rw [e1] at this
    exact this
noncomputable def run (p : Int) (q : SI)  (F : List Fact) (b : Nat) (h0 : Nat → Option Obj) : Bool :=
  runFX (cx p q F b h0) 3000 7 [.int .i64 (.var 0), .int .i64 (.var 1), .int .i64 (.var 2)] (roH (vsA b h0)) (cx p q F b h0).G
end Go.Proofs.YtggonamheakkkaaGreatDoor.EvalArrays
