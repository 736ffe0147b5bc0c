/-
  Layer 06: a loop that counts down tells what it counted: whatever the numbers.
-/
import Derived.Test.YtggonamheakkkaaGreatDoorCn0
import Derived.Test.YtggonamheakkkaaGreatDoorCn1
import Derived.Test.YtggonamheakkkaaGreatDoorCn2
import Derived.Test.YtggonamheakkkaaGreatDoorCn3
import Derived.Test.YtggonamheakkkaaGreatDoorCn4
import Derived.Test.YtggonamheakkkaaGreatDoorCn5
namespace Go.Proofs.YtggonamheakkkaaGreatDoor.EvalCounts
open Go.Xq Go.RowKit Go.Proofs.YtggonamheakkkaaGreatDoor
theorem row (b : Nat) (h : Nat → Option Obj) : ∀ k : Fin 49, run (.lit (k.val : Int)) fR b h = true
  | ⟨0, _⟩ => run_0 b h
  | ⟨1, _⟩ => run_1 b h
  | ⟨2, _⟩ => run_2 b h
  | ⟨3, _⟩ => run_3 b h
  | ⟨4, _⟩ => run_4 b h
  | ⟨5, _⟩ => run_5 b h
  | ⟨6, _⟩ => run_6 b h
  | ⟨7, _⟩ => run_7 b h
  | ⟨8, _⟩ => run_8 b h
  | ⟨9, _⟩ => run_9 b h
  | ⟨10, _⟩ => run_10 b h
  | ⟨11, _⟩ => run_11 b h
  | ⟨12, _⟩ => run_12 b h
  | ⟨13, _⟩ => run_13 b h
  | ⟨14, _⟩ => run_14 b h
  | ⟨15, _⟩ => run_15 b h
  | ⟨16, _⟩ => run_16 b h
  | ⟨17, _⟩ => run_17 b h
  | ⟨18, _⟩ => run_18 b h
  | ⟨19, _⟩ => run_19 b h
  | ⟨20, _⟩ => run_20 b h
  | ⟨21, _⟩ => run_21 b h
  | ⟨22, _⟩ => run_22 b h
  | ⟨23, _⟩ => run_23 b h
  | ⟨24, _⟩ => run_24 b h
  | ⟨25, _⟩ => run_25 b h
  | ⟨26, _⟩ => run_26 b h
  | ⟨27, _⟩ => run_27 b h
  | ⟨28, _⟩ => run_28 b h
  | ⟨29, _⟩ => run_29 b h
  | ⟨30, _⟩ => run_30 b h
  | ⟨31, _⟩ => run_31 b h
  | ⟨32, _⟩ => run_32 b h
  | ⟨33, _⟩ => run_33 b h
  | ⟨34, _⟩ => run_34 b h
  | ⟨35, _⟩ => run_35 b h
  | ⟨36, _⟩ => run_36 b h
  | ⟨37, _⟩ => run_37 b h
  | ⟨38, _⟩ => run_38 b h
  | ⟨39, _⟩ => run_39 b h
  | ⟨40, _⟩ => run_40 b h
  | ⟨41, _⟩ => run_41 b h
  | ⟨42, _⟩ => run_42 b h
  | ⟨43, _⟩ => run_43 b h
  | ⟨44, _⟩ => run_44 b h
  | ⟨45, _⟩ => run_45 b h
  | ⟨46, _⟩ => run_46 b h
  | ⟨47, _⟩ => run_47 b h
  | ⟨48, _⟩ => run_48 b h
  | ⟨k + 49, h⟩ => absurd h (by omega)
theorem walk (a0 a1 : Int) (w0 : (Lit.int .i64 a0).wf = true) (w1 : (Lit.int .i64 a1).wf = true) (W : World) (hL : laidMetH Tryz.prog Rows.evalCountsRow.laid W) :
    Calls Tryz.prog 6 #[.int .i64 a0, .int .i64 a1] W fun e W' => e = .returned (.bool true) ∧ Below W.heap.size W W' := by
  have b0 := bnd64 w0
  have b1 := bnd64 w1
  obtain ⟨k0, k1⟩ := pickN_lt a0 (n := 101) (by decide)
  obtain ⟨d0, d1⟩ := pickN_lt a1 (n := 101) (by decide)
  have fin : ∀ (q : SI) (F : List Fact), q.den (fun j => match j with | 0 => a0 | 1 => a1 | 2 => pickN a0 101 | 3 => pickN a1 101 | _ => 6 + 11 * pickN a0 101) = pickN a1 101 → FactsOk F (fun j => match j with | 0 => a0 | 1 => a1 | 2 => pickN a0 101 | 3 => pickN a1 101 | _ => 6 + 11 * pickN a0 101) → run q F W.heap.size (fun k => W.heap[k]?) = true → Calls Tryz.prog 6 #[.int .i64 a0, .int .i64 a1] W fun e W' => e = .returned (.bool true) ∧ Below W.heap.size W W' :=
    fun q F hq hF hrun => true_at (cx_ok q F hL) 8000 (vs := vsA W.heap.size fun k => W.heap[k]?) (vsA_lt _ _) (Nat.le_refl _) (runFX_eq hrun) (I := fun j => match j with | 0 => a0 | 1 => a1 | 2 => pickN a0 101 | 3 => pickN a1 101 | _ => 6 + 11 * pickN a0 101) W (Q := fun _ => .nilIface) ⟨hF, trivial, b0, rfl, b1, hq.symm, rfl⟩ rfl (laid_at hL _ _) (Nat.le_refl _) (fun _ _ => rfl)
  rcases Int.lt_or_le 48 (pickN a1 101) with hd | hd
  · refine fin (.var 3) fD rfl (fD_ok ?_ ?_ hd ?_) (run_deep _ _)
    · show 0 ≤ 6 + 11 * pickN a0 101
      omega
    · show 6 + 11 * pickN a0 101 ≤ 2000
      omega
    · show pickN a1 101 ≤ 100
      omega
  · refine fin (.lit (pickN a1 101)) fR rfl (fR_ok ?_ ?_) ?_
    · show 0 ≤ 6 + 11 * pickN a0 101
      omega
    · show 6 + 11 * pickN a0 101 ≤ 2000
      omega
    · have := row W.heap.size (fun k => W.heap[k]?) ⟨(pickN a1 101).toNat, by omega⟩
      rwa [show (((pickN a1 101).toNat : Nat) : Int) = pickN a1 101 by omega] at this
end Go.Proofs.YtggonamheakkkaaGreatDoor.EvalCounts
