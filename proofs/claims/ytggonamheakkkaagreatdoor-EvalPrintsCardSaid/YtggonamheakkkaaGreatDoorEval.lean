/-
  Layer 6: programs: the context, and the fixed calls.
-/
import Derived.Test.YtggonamheakkkaaGreatDoorXv
import Derived.Test.YtggonamheakkkaaGreatDoorXy
import Derived.Test.YtggonamheakkkaaGreatDoorXu
import Derived.Test.YtggonamheakkkaaGreatDoorRows
import Derived.Test.YtggonamheakkkaaGreatDoorChecked
import Derived.KernelRfl
import Derived.WalkKit
namespace Go.Proofs.YtggonamheakkkaaGreatDoor
open Go.Xq Go.RowKit
set_option maxRecDepth 1000000
theorem cx_names : nameOk Tryz.prog.funcs.toList = true := by kernel_rfl
theorem cx_mixed : Tryz.prog.follows .mixedOrders = true := by kernel_rfl
noncomputable def exts : List (Nat × Nat) := []
theorem exts_ok : ∀ x ∈ exts, ExtOk Tryz.prog x.1 x.2 := fun _ h => nomatch h
/-- Arrays that are compared; functions that defer a call. -/
noncomputable def soks : List Nat := [205]
noncomputable def dfs : List Nat := [44, 33]
theorem soks_ok : (soks.all fun t => !Tryz.prog.stoodInHeld t && !Tryz.prog.eqGuardType Tryz.prog.depth t) = true := by kernel_rfl
noncomputable def cxA (b : Nat) (h0 : Nat → Option Obj) : Cx := cxOf Tryz.prog.funcs Tryz.prog.types exts 300 300 [] [] (fun _ => True) soks b h0 (dfs := dfs)
theorem cxA_ok (b : Nat) (h0 : Nat → Option Obj) : (cxA b h0).Ok Tryz.prog := cxOf_ok (hooks := []) cx_names cx_mixed exts_ok (fun _ h => nomatch h) soks_ok
noncomputable def vsA (b : Nat) (h0 : Nat → Option Obj) : List (Nat × List SV) := layAll Tryz.prog (cxA b h0) 8 Rows.evalCallsRow.laid
theorem vsA_lt (b : Nat) (h0 : Nat → Option Obj) : ((vsA b h0).all fun x => Nat.blt x.1 (cxA b h0).g0) = true := by kernel_rfl
theorem awake_run (b : Nat) (h0 : Nat → Option Obj) : runFX (cxA b h0) 3000 11 [] (roH (vsA b h0)) (cxA b h0).G = true := by kernel_rfl
theorem laid_at {W : World} (h : laidMetH Tryz.prog Rows.evalCallsRow.laid W) (b : Nat) (h0 : Nat → Option Obj) : RoAt (vsA b h0) fun k => W.heap[k]? := by
  rw [MakeChecks.laidMetH_plain _ _ _ (by kernel_rfl)] at h
  obtain ⟨ps, hv, _⟩ := h
  exact roAt_of (cxA_ok b h0) (laidVars_at hv)
theorem awake_at {W : World} (h : laidMetH Tryz.prog Rows.evalCallsRow.laid W) (w : World) (hb : W.heap.size ≤ w.heap.size) (hs : ∀ k, k < W.heap.size → w.heap[k]? = W.heap[k]?) :
    Calls Tryz.prog 11 #[] w fun e w' => e = .returned (.bool true) ∧ Below w.heap.size w w' :=
  true_at (cxA_ok W.heap.size fun k => W.heap[k]?) 3000 (vsA_lt _ _) (Nat.le_refl _) (runFX_eq (awake_run _ _)) (I := fun _ => 0) w (Q := fun _ => .nilIface) ⟨(fun _ h => nomatch h), trivial, trivial⟩ (xs := []) rfl
    (RoAt.mono (laid_at h _ _) (b := W.heap.size) (fun _ _ hk => (Array.getElem?_eq_some_iff.1 hk).1) hs) hb hs
theorem facts_nil {I : Nat → Int} : FactsOk [] I := fun _ h => nomatch h
theorem facts_cons {I : Nat → Int} {op : BinOp} {a b : SI} {r : Bool} {F : List Fact} (h : icmp op (a.den I) (b.den I) = r) (t : FactsOk F I) : FactsOk (⟨op, a, b, r⟩ :: F) I := fun f hf => by
  rcases List.mem_cons.1 hf with rfl | hf
  · exact h
  · exact t f hf
end Go.Proofs.YtggonamheakkkaaGreatDoor
