/-
  Layer 3: trees: the contexts, and the fixed calls.
-/
import Derived.Test.YtaoejgkanafmoaaDoorXv
import Derived.Test.YtaoejgkanafmoaaDoorXu
import Derived.Test.YtaoejgkanafmoaaDoorRows
import Derived.Test.YtaoejgkanafmoaaDoorChecked
import Derived.KernelRfl
import Derived.WalkKit
import Derived.Laws.Externs
import Derived.Lib.MakeNoZero
namespace Go.Proofs.YtaoejgkanafmoaaDoor
open Go.Xq Go.RowKit
set_option maxRecDepth 1000000
theorem cx_names : nameOk Tryd.prog.funcs.toList = true := by kernel_rfl
theorem cx_mixed : Tryd.prog.follows .mixedOrders = true := by kernel_rfl

def exts : List (Nat × Nat) := [(81, 2), (91, 5 + 3)]
theorem ext_same : ExtOk Tryd.prog 81 2 := fun x w => by
  rw [run_callFunc_extern (fn := Tryd.f81) Tryd.func81 (by kernel_rfl) (by kernel_rfl) (by kernel_rfl) (show _ = some Extern.AbiNoEscape.same by kernel_rfl), Lib.run_noEscape]
  rfl
theorem ext_room : ExtOk Tryd.prog 91 (5 + 3) := fun n w hn => by
  obtain ⟨cs, hrun, _, _⟩ := Lib.run_makeNoZero (P := Tryd.prog) w #[3] 49 5 Tryd.underlying49 n hn
  refine ⟨cs, ?_⟩
  rw [run_callFunc_extern (fn := Tryd.f91) Tryd.func91 (by kernel_rfl) (by kernel_rfl) (by kernel_rfl) (show _ = some (Extern.BytealgMakeNoZero.makeNoZero #[3] #[49]) by kernel_rfl), hrun]
  rfl
theorem exts_ok : ∀ x ∈ exts, ExtOk Tryd.prog x.1 x.2 := by
  intro x hx
  simp only [exts, List.mem_cons, List.not_mem_nil, or_false] at hx
  rcases hx with rfl | rfl
  · exact ext_same
  · exact ext_room

/-- The structs that are seen by their first field. -/
def soks : List Nat := [53]
theorem soks_ok : (soks.all fun t => !Tryd.prog.stoodInHeld t && !Tryd.prog.eqGuardType Tryd.prog.depth t) = true := by kernel_rfl

noncomputable def cxA (b : Nat) (h0 : Nat → Option Obj) : Cx := cxOf Tryd.prog.funcs Tryd.prog.types exts 300 300 [] [] (fun _ => True) soks b h0
theorem cxA_ok (b : Nat) (h0 : Nat → Option Obj) : (cxA b h0).Ok Tryd.prog := cxOf_ok (hooks := []) cx_names cx_mixed exts_ok (fun _ h => nomatch h) soks_ok
noncomputable def vsA (b : Nat) (h0 : Nat → Option Obj) : List (Nat × List SV) := layAll Tryd.prog (cxA b h0) 8 Rows.treeBindsRow.laid
theorem vsA_lt (b : Nat) (h0 : Nat → Option Obj) : ((vsA b h0).all fun x => Nat.blt x.1 (cxA b h0).g0) = true := by kernel_rfl
theorem awake_run (b : Nat) (h0 : Nat → Option Obj) : isTrueX (callX (cxA b h0) (codeX (cxA b h0) 3000) 4 [] (roH (vsA b h0)) (cxA b h0).G) = true := by kernel_rfl

theorem laid_at {W : World} (h : laidMetH Tryd.prog Rows.treeBindsRow.laid W) (b : Nat) (h0 : Nat → Option Obj) : RoAt (vsA b h0) fun k => W.heap[k]? := by
  rw [MakeChecks.laidMetH_plain _ _ _ (by kernel_rfl)] at h
  obtain ⟨ps, hv, _⟩ := h
  exact roAt_of (cxA_ok b h0) (laidVars_at hv)

theorem awake_at {W : World} (h : laidMetH Tryd.prog Rows.treeBindsRow.laid W) (w : World) (hb : W.heap.size ≤ w.heap.size) (hs : ∀ k, k < W.heap.size → w.heap[k]? = W.heap[k]?) :
    Calls Tryd.prog 4 #[] w fun e w' => e = .returned (.bool true) ∧ Below w.heap.size w w' :=
  true_at (cxA_ok W.heap.size fun k => W.heap[k]?) 3000 (vsA_lt _ _) (Nat.le_refl _) (awake_run _ _) (I := fun _ => 0) ⟨(fun _ h => nomatch h), trivial⟩ (xs := []) w rfl
    (RoAt.mono (laid_at h _ _) (b := W.heap.size) (fun k x hk => (Array.getElem?_eq_some_iff.1 hk).1) hs) hb hs

/-! ### A name -/
theorem name_run (b : Nat) (h0 : Nat → Option Obj) : isTrueX (callX (cxA b h0) (codeX (cxA b h0) 3000) 20 [.str [120]] (roH []) (cxA b h0).G) = true := by kernel_rfl
theorem name_at {W : World} (w : World) (hb : W.heap.size ≤ w.heap.size) (hs : ∀ k, k < W.heap.size → w.heap[k]? = W.heap[k]?) :
    Calls Tryd.prog 20 #[.string ⟨#[120]⟩] w fun e w' => e = .returned (.bool true) ∧ Below w.heap.size w w' :=
  true_at (cxA_ok W.heap.size fun k => W.heap[k]?) 3000 (vs := []) rfl (Nat.le_refl _) (name_run _ _) (I := fun _ => 0) ⟨(fun _ h => nomatch h), trivial⟩ (xs := [.string ⟨#[120]⟩]) w rfl
    (fun g cs h => nomatch h) hb hs
theorem facts_nil {I : Nat → Int} : FactsOk [] I := fun _ h => nomatch h
end Go.Proofs.YtaoejgkanafmoaaDoor
