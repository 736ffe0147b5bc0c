/-
  Layer 9: what code does: the context, and the fixed calls.
-/
import Derived.Test.YteehdbbohjhnoaaGreatDoorXv
import Derived.Test.YteehdbbohjhnoaaGreatDoorXu
import Derived.Test.YteehdbbohjhnoaaGreatDoorRows
import Derived.Test.YteehdbbohjhnoaaGreatDoorChecked
import Derived.KernelRfl
import Derived.WalkKit
import Derived.Laws.Externs
import Derived.Lib.Bytealg
namespace Go.Proofs.YteehdbbohjhnoaaGreatDoor
open Go.Xq Go.RowKit
set_option maxRecDepth 1000000
theorem cx_names : nameOk Tryz.prog.funcs.toList = true := by kernel_rfl
theorem cx_mixed : Tryz.prog.follows .mixedOrders = true := by kernel_rfl

noncomputable def exts : List (Nat × Nat) := [(108, 0), (130, 1)]
theorem ext_count : ExtOk Tryz.prog 108 0 := fun s c w => by
  rw [run_callFunc_extern (fn := Tryz.f108) Tryz.func108 (by kernel_rfl) (by kernel_rfl) (by kernel_rfl) (show _ = some Extern.BytealgCount.count by kernel_rfl), Lib.run_countString]
  rfl
theorem ext_index : ExtOk Tryz.prog 130 1 := fun s c w => by
  rw [run_callFunc_extern (fn := Tryz.f130) Tryz.func130 (by kernel_rfl) (by kernel_rfl) (by kernel_rfl) (show _ = some Extern.BytealgIndexByte.indexByte by kernel_rfl), Lib.run_indexByteString]
  rfl
theorem exts_ok : ∀ x ∈ exts, ExtOk Tryz.prog x.1 x.2 := by
  intro x hx
  simp only [exts, List.mem_cons, List.not_mem_nil, or_false] at hx
  rcases hx with rfl | rfl
  · exact ext_count
  · exact ext_index

noncomputable def soks : List Nat := [39]
theorem soks_ok : (soks.all fun t => !Tryz.prog.stoodInHeld t && !Tryz.prog.eqGuardType Tryz.prog.depth t) = true := by kernel_rfl

noncomputable def cxA (b : Nat) (h0 : Nat → Option Obj) : Cx := cxOf Tryz.prog.funcs Tryz.prog.types exts 300 300 [] [] (fun _ => True) soks b h0
theorem cxA_ok (b : Nat) (h0 : Nat → Option Obj) : (cxA b h0).Ok Tryz.prog := cxOf_ok (hooks := []) cx_names cx_mixed exts_ok (fun _ h => nomatch h) soks_ok
noncomputable def vsA (b : Nat) (h0 : Nat → Option Obj) : List (Nat × List SV) := layAll Tryz.prog (cxA b h0) 8 Rows.machZeroRow.laid
theorem vsA_lt (b : Nat) (h0 : Nat → Option Obj) : ((vsA b h0).all fun x => Nat.blt x.1 (cxA b h0).g0) = true := by kernel_rfl
theorem awake_run (b : Nat) (h0 : Nat → Option Obj) : isTrueX (callX (cxA b h0) (codeX (cxA b h0) 3000) 11 [] (roH (vsA b h0)) (cxA b h0).G) = true := by kernel_rfl

theorem laid_at {W : World} (h : laidMetH Tryz.prog Rows.machZeroRow.laid W) (b : Nat) (h0 : Nat → Option Obj) : RoAt (vsA b h0) fun k => W.heap[k]? := by
  rw [MakeChecks.laidMetH_plain _ _ _ (by kernel_rfl)] at h
  obtain ⟨ps, hv, _⟩ := h
  exact roAt_of (cxA_ok b h0) (laidVars_at hv)

theorem awake_at {W : World} (h : laidMetH Tryz.prog Rows.machZeroRow.laid W) (w : World) (hb : W.heap.size ≤ w.heap.size) (hs : ∀ k, k < W.heap.size → w.heap[k]? = W.heap[k]?) :
    Calls Tryz.prog 11 #[] w fun e w' => e = .returned (.bool true) ∧ Below w.heap.size w w' :=
  true_at (cxA_ok W.heap.size fun k => W.heap[k]?) 3000 (vsA_lt _ _) (Nat.le_refl _) (awake_run _ _) (I := fun _ => 0) w (Q := fun _ => .nilIface) ⟨(fun _ h => nomatch h), trivial, trivial⟩ (xs := []) rfl
    (RoAt.mono (laid_at h _ _) (b := W.heap.size) (fun _ _ hk => (Array.getElem?_eq_some_iff.1 hk).1) hs) hb hs

theorem wrap_id {x : Int} (h0 : -9223372036854775808 ≤ x) (h1 : x ≤ 9223372036854775807) : IntKind.i64.wrap x = x := by
  have : IntKind.i64.wrap x = (if (true && decide (x % (2 ^ 64 : Int) ≥ (2 ^ 63 : Int))) = true then x % (2 ^ 64 : Int) - (2 ^ 64 : Int) else x % (2 ^ 64 : Int)) := rfl
  rw [this]
  simp only [Bool.true_and, decide_eq_true_eq]
  split <;> omega
theorem facts_nil {I : Nat → Int} : FactsOk [] I := fun _ h => nomatch h
theorem facts_cons {I : Nat → Int} {op : BinOp} {a b : SI} {r : Bool} {F : List Fact} (h : icmp op (a.den I) (b.den I) = r) (t : FactsOk F I) : FactsOk (⟨op, a, b, r⟩ :: F) I := fun f hf => by
  rcases List.mem_cons.1 hf with rfl | hf
  · exact h
  · exact t f hf
end Go.Proofs.YteehdbbohjhnoaaGreatDoor
