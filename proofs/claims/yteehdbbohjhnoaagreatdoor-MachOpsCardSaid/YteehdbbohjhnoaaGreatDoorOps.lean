/-
  Layer 09: instructions of registers make what operators make: the context.
-/
import Derived.Test.YteehdbbohjhnoaaGreatDoorMach
namespace Go.Proofs.YteehdbbohjhnoaaGreatDoor.MachOps
open Go.Xq Go.RowKit Go.Proofs.YteehdbbohjhnoaaGreatDoor
set_option maxRecDepth 1000000
def kn (p : Int) (I : Nat → Int) : Prop := (-9223372036854775808 ≤ I 0 ∧ I 0 ≤ 9223372036854775807) ∧ pickN (I 0) 15 = p
def hks (p : Int) : List Hook :=
  [⟨11, [], .bool true⟩,
   ⟨13, [.int .i64 (.var 0), .int .i64 (.lit 15)], .int .i64 (.lit p)⟩]
noncomputable def cx (p : Int) (F : List Fact) (b : Nat) (h0 : Nat → Option Obj) : Cx := cxOf Tryz.prog.funcs Tryz.prog.types exts 300 300 F (hks p) (kn p) soks b h0
theorem cx_ok (p : Int) (F : List Fact) {W : World} (h : laidMetH Tryz.prog Rows.machOpsRow.laid W) : (cx p F W.heap.size fun k => W.heap[k]?).Ok Tryz.prog := by
  refine cxOf_ok cx_names cx_mixed exts_ok ?_ soks_ok
  intro hk hm E xs hK ha
  obtain ⟨r0, e0⟩ := hK
  simp only [hks, List.mem_cons, List.not_mem_nil, or_false] at hm
  rcases hm with rfl | rfl
  · have hx : xs = [] := by simpa [denL, eq_comm] using ha
    subst hx
    exact ⟨.bool true, rfl, fun w hb hs => awake_at h w hb hs⟩
  · have hx : xs = [.int .i64 (E.ints 0), .int .i64 15] := by simpa [denL, SV.den, SI.den, eq_comm] using ha
    subst hx
    refine ⟨.int .i64 p, rfl, fun w _ _ => Calls.stay ?_⟩
    have := pick_any (E.ints 0) 15 r0 (by decide) w
    rw [e0] at this
    exact this
noncomputable def run (p : Int)  (F : List Fact) (b : Nat) (h0 : Nat → Option Obj) : Bool :=
  isTrueX (callX (cx p F b h0) (codeX (cx p F b h0) 3000) 8 [.int .i64 (.var 0), .int .i64 (.var 1), .int .i64 (.var 2)] (roH (vsA b h0)) (cx p F b h0).G)
end Go.Proofs.YteehdbbohjhnoaaGreatDoor.MachOps
