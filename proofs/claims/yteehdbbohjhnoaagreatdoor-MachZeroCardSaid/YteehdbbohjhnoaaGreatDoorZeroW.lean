/-
  Layer 09: x0 is 0, whatever is done to it: whatever the numbers.
-/
import Derived.Test.YteehdbbohjhnoaaGreatDoorZero0
namespace Go.Proofs.YteehdbbohjhnoaaGreatDoor.MachZero
open Go.Xq Go.RowKit Go.Proofs.YteehdbbohjhnoaaGreatDoor
theorem walk (a0 a1 : Int) (w0 : (Lit.int .i64 a0).wf = true) (w1 : (Lit.int .i64 a1).wf = true) (W : World) (hL : laidMetH Tryz.prog Rows.machZeroRow.laid W) :
    Calls Tryz.prog 10 #[.int .i64 a0, .int .i64 a1] W fun e W' => e = .returned (.bool true) ∧ Below W.heap.size W W' := by
  have b1 := bnd64 w1
  obtain ⟨k0, k1⟩ := pickN_lt a1 (n := 7) (by decide)
  generalize hk : pickN a1 7 = p at k0 k1
  have fin : ∀ F : List Fact, FactsOk F (fun j => match j with | 0 => a0 | _ => a1) → run p F W.heap.size (fun k => W.heap[k]?) = true → Calls Tryz.prog 10 #[.int .i64 a0, .int .i64 a1] W fun e W' => e = .returned (.bool true) ∧ Below W.heap.size W W' :=
    fun F hF hrun => true_at (cx_ok p F hL) 3000 (vs := vsA W.heap.size fun k => W.heap[k]?) (vsA_lt _ _) (Nat.le_refl _) hrun (I := fun j => match j with | 0 => a0 | _ => a1) ⟨hF, b1, hk⟩ W rfl (laid_at hL _ _) (Nat.le_refl _) (fun _ _ => rfl)
  have hp : p = 0 ∨ p = 1 ∨ p = 2 ∨ p = 3 ∨ p = 4 ∨ p = 5 ∨ p = 6 := by omega
  clear hk
  rcases hp with rfl | rfl | rfl | rfl | rfl | rfl | rfl
  · exact fin _ facts_nil (run_0 _ _)
  · exact fin _ facts_nil (run_1 _ _)
  · exact fin _ facts_nil (run_2 _ _)
  · exact fin _ facts_nil (run_3 _ _)
  · exact fin _ facts_nil (run_4 _ _)
  · exact fin _ facts_nil (run_5 _ _)
  · cases hr : icmp .lss 0 (IntKind.u64.wrap a0) with
    | true => exact fin _ (facts_cons hr facts_nil) (run_6_t _ _)
    | false => exact fin _ (facts_cons hr facts_nil) (run_6_f _ _)
end Go.Proofs.YteehdbbohjhnoaaGreatDoor.MachZero
