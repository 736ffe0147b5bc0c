/-
  Layer 6: EvalCalls: a function has what it is called with, in order, each time anew: one run, whatever the six numbers.
-/
import Derived.Test.YtggonamheakkkaaGreatDoorCallsKQ
namespace Go.Proofs.YtggonamheakkkaaGreatDoor.CallsK
open Go.Xq Go.RowKit Go.Proofs.YtggonamheakkkaaGreatDoor
set_option maxRecDepth 1000000
noncomputable def hks : List Hook := [⟨11, [], .bool true⟩]
noncomputable def cxL (b : Nat) (h0 : Nat → Option Obj) : Cx := cxOf Tryz.prog.funcs Tryz.prog.types exts 300 300 [] hks (fun _ => True) soks b h0 (dfs := dfs) (parts := [p0, p1, p2])
theorem cxL_ok {W : World} (h : laidMetH Tryz.prog Rows.evalCallsRow.laid W) : (cxL W.heap.size fun k => W.heap[k]?).Ok Tryz.prog := by
  refine cxOf_ok cx_names cx_mixed exts_ok ?_ soks_ok (hparts := fun p hp => parts_ok W.heap.size (fun k => W.heap[k]?) ⟨rfl, rfl, rfl, rfl⟩ p hp)
  intro hk hm E xs hK ha
  simp only [hks, List.mem_cons, List.not_mem_nil, or_false] at hm
  subst hm
  have hx : xs = [] := by simpa [denL, eq_comm] using ha
  subst hx
  exact ⟨.bool true, rfl, fun w hb hs => awake_at h w hb hs⟩
theorem run (b : Nat) (h0 : Nat → Option Obj) : runFX (cxL b h0) 3000 10 [.int .i64 (.var 0), .int .i64 (.var 1), .int .i64 (.var 2), .int .i64 (.var 3), .int .i64 (.var 4), .int .i64 (.var 5)] (roH (vsA b h0)) (cxL b h0).G = true := by kernel_rfl
theorem walk (a0 a1 a2 a3 a4 a5 : Int) (w0 : (Lit.int .i64 a0).wf = true) (w1 : (Lit.int .i64 a1).wf = true) (w2 : (Lit.int .i64 a2).wf = true) (w3 : (Lit.int .i64 a3).wf = true) (w4 : (Lit.int .i64 a4).wf = true) (w5 : (Lit.int .i64 a5).wf = true) (W : World) (hL : laidMetH Tryz.prog Rows.evalCallsRow.laid W) :
    Calls Tryz.prog 10 #[.int .i64 a0, .int .i64 a1, .int .i64 a2, .int .i64 a3, .int .i64 a4, .int .i64 a5] W fun e W' => e = .returned (.bool true) ∧ Below W.heap.size W W' :=
  true_at (cxL_ok hL) 3000 (vsA_lt _ _) (Nat.le_refl _) (runFX_eq (run _ _)) (I := fun j => match j with | 0 => a0 | 1 => a1 | 2 => a2 | 3 => a3 | 4 => a4 | _ => a5) W (Q := fun _ => .nilIface) ⟨(fun _ h => nomatch h), trivial, trivial⟩ rfl (laid_at hL _ _) (Nat.le_refl _) (fun _ _ => rfl)
end Go.Proofs.YtggonamheakkkaaGreatDoor.CallsK
