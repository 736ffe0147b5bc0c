/-
  Layer 03: what binds more strongly needs no parentheses: the context.
-/
import Derived.Test.YtaoejgkanafmoaaDoorTree
namespace Go.Proofs.YtaoejgkanafmoaaDoor.TreeBinds
open Go.Xq Go.RowKit Go.Proofs.YtaoejgkanafmoaaDoor
set_option maxRecDepth 1000000
def kn (p : Int) (q : Int) (I : Nat → Int) : Prop := (-9223372036854775808 ≤ I 0 ∧ I 0 ≤ 9223372036854775807) ∧ pickN (I 0) 16 = p ∧ (-9223372036854775808 ≤ I 1 ∧ I 1 ≤ 9223372036854775807) ∧ pickN (I 1) 16 = q
def hks (p : Int) (q : Int) : List Hook :=
  [⟨4, [], .bool true⟩,
   ⟨5, [.int .i64 (.var 0), .int .i64 (.lit 16)], .int .i64 (.lit p)⟩,
   ⟨5, [.int .i64 (.var 1), .int .i64 (.lit 16)], .int .i64 (.lit q)⟩]
noncomputable def cx (p : Int) (q : Int) (F : List Fact) (b : Nat) (h0 : Nat → Option Obj) : Cx := cxOf Tryd.prog.funcs Tryd.prog.types exts 300 300 F (hks p q) (kn p q) soks b h0
theorem cx_ok (p : Int) (q : Int) (F : List Fact) {W : World} (h : laidMetH Tryd.prog Rows.treeBindsRow.laid W) : (cx p q F W.heap.size fun k => W.heap[k]?).Ok Tryd.prog := by
  refine cxOf_ok cx_names cx_mixed exts_ok ?_ soks_ok
  intro hk hm E xs hK ha
  obtain ⟨r0, e0, r1, e1⟩ := hK
  simp only [hks, List.mem_cons, List.not_mem_nil, or_false] at hm
  rcases hm with rfl | rfl | rfl
  · have hx : xs = [] := by simpa [denL, eq_comm] using ha
    subst hx
    exact ⟨.bool true, rfl, fun w hb hs => awake_at h w hb hs⟩
  · have hx : xs = [.int .i64 (E.ints 0), .int .i64 16] := by simpa [denL, SV.den, SI.den, eq_comm] using ha
    subst hx
    refine ⟨.int .i64 p, rfl, fun w _ _ => Calls.stay ?_⟩
    have := pick_any (E.ints 0) 16 r0 (by decide) w
    rw [e0] at this
    exact this
  · have hx : xs = [.int .i64 (E.ints 1), .int .i64 16] := by simpa [denL, SV.den, SI.den, eq_comm] using ha
    subst hx
    refine ⟨.int .i64 q, rfl, fun w _ _ => Calls.stay ?_⟩
    have := pick_any (E.ints 1) 16 r1 (by decide) w
    rw [e1] at this
    exact this
noncomputable def run (p : Int) (q : Int)  (F : List Fact) (b : Nat) (h0 : Nat → Option Obj) : Bool :=
  isTrueX (callX (cx p q F b h0) (codeX (cx p q F b h0) 3000) 3 [.int .i64 (.var 0), .int .i64 (.var 1)] (roH (vsA b h0)) (cx p q F b h0).G)
end Go.Proofs.YtaoejgkanafmoaaDoor.TreeBinds
