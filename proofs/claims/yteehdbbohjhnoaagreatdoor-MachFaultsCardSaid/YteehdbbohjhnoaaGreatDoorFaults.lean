/-
  Layer 09: a place that is none, and the like, are faults: the context.
-/
import Derived.Test.YteehdbbohjhnoaaGreatDoorMach
namespace Go.Proofs.YteehdbbohjhnoaaGreatDoor.MachFaults
open Go.Xq Go.RowKit Go.Proofs.YteehdbbohjhnoaaGreatDoor
set_option maxRecDepth 1000000
def kn (q : SI) (p : Int) (I : Nat → Int) : Prop := (-9223372036854775808 ≤ I 1 ∧ I 1 ≤ 9223372036854775807) ∧ pickN (I 1) 1000 = q.den I ∧ (-9223372036854775808 ≤ I 0 ∧ I 0 ≤ 9223372036854775807) ∧ pickN (I 0) 6 = p
def hks (q : SI) (p : Int) : List Hook :=
  [⟨11, [], .bool true⟩,
   ⟨13, [.int .i64 (.var 1), .int .i64 (.lit 1000)], .int .i64 q⟩,
   ⟨13, [.int .i64 (.var 0), .int .i64 (.lit 6)], .int .i64 (.lit p)⟩]
noncomputable def cx (q : SI) (p : Int) (F : List Fact) (b : Nat) (h0 : Nat → Option Obj) : Cx := cxOf Tryz.prog.funcs Tryz.prog.types exts 300 300 F (hks q p) (kn q p) soks b h0
theorem cx_ok (q : SI) (p : Int) (F : List Fact) {W : World} (h : laidMetH Tryz.prog Rows.machFaultsRow.laid W) : (cx q p F W.heap.size fun k => W.heap[k]?).Ok Tryz.prog := by
  refine cxOf_ok cx_names cx_mixed exts_ok ?_ soks_ok
  intro hk hm E xs hK ha
  obtain ⟨r0, e0, r1, e1⟩ := hK
  simp only [hks, List.mem_cons, List.not_mem_nil, or_false] at hm
  rcases hm with rfl | rfl | rfl
  · have hx : xs = [] := by simpa [denL, eq_comm] using ha
    subst hx
    exact ⟨.bool true, rfl, fun w hb hs => awake_at h w hb hs⟩
  · have hx : xs = [.int .i64 (E.ints 1), .int .i64 1000] := by simpa [denL, SV.den, SI.den, eq_comm] using ha
    subst hx
    refine ⟨.int .i64 (q.den E.ints), rfl, fun w _ _ => Calls.stay ?_⟩
    have := pick_any (E.ints 1) 1000 r0 (by decide) w
    rw [e0] at this
    exact this
  · have hx : xs = [.int .i64 (E.ints 0), .int .i64 6] := by simpa [denL, SV.den, SI.den, eq_comm] using ha
    subst hx
    refine ⟨.int .i64 p, rfl, fun w _ _ => Calls.stay ?_⟩
    have := pick_any (E.ints 0) 6 r1 (by decide) w
    rw [e1] at this
    exact this
noncomputable def run (q : SI) (p : Int)  (F : List Fact) (b : Nat) (h0 : Nat → Option Obj) : Bool :=
  isTrueX (callX (cx q p F b h0) (codeX (cx q p F b h0) 3000) 6 [.int .i64 (.var 0), .int .i64 (.var 1)] (roH (vsA b h0)) (cx q p F b h0).G)
end Go.Proofs.YteehdbbohjhnoaaGreatDoor.MachFaults
