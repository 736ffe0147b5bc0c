/-
  Layer 09: instructions of registers make what operators make: whatever the numbers.
-/
import Derived.Test.YteehdbbohjhnoaaGreatDoorOps0
import Derived.Test.YteehdbbohjhnoaaGreatDoorOps1
import Derived.Test.YteehdbbohjhnoaaGreatDoorOps2
namespace Go.Proofs.YteehdbbohjhnoaaGreatDoor.MachOps
open Go.Xq Go.RowKit Go.Proofs.YteehdbbohjhnoaaGreatDoor
theorem walk (a0 a1 a2 : Int) (w0 : (Lit.int .i64 a0).wf = true) (w1 : (Lit.int .i64 a1).wf = true) (w2 : (Lit.int .i64 a2).wf = true) (W : World) (hL : laidMetH Tryz.prog Rows.machOpsRow.laid W) :
    Calls Tryz.prog 8 #[.int .i64 a0, .int .i64 a1, .int .i64 a2] W fun e W' => e = .returned (.bool true) ∧ Below W.heap.size W W' := by
  have b0 := bnd64 w0
  obtain ⟨k0, k1⟩ := pickN_lt a0 (n := 15) (by decide)
  generalize hk : pickN a0 15 = p at k0 k1
  have fin : ∀ F : List Fact, FactsOk F (fun j => match j with | 0 => a0 | 1 => a1 | _ => a2) → run p F W.heap.size (fun k => W.heap[k]?) = true → Calls Tryz.prog 8 #[.int .i64 a0, .int .i64 a1, .int .i64 a2] W fun e W' => e = .returned (.bool true) ∧ Below W.heap.size W W' :=
    fun F hF hrun => true_at (cx_ok p F hL) 3000 (vs := vsA W.heap.size fun k => W.heap[k]?) (vsA_lt _ _) (Nat.le_refl _) hrun (I := fun j => match j with | 0 => a0 | 1 => a1 | _ => a2) ⟨hF, b0, hk⟩ W rfl (laid_at hL _ _) (Nat.le_refl _) (fun _ _ => rfl)
  have hp : p = 0 ∨ p = 1 ∨ p = 2 ∨ p = 3 ∨ p = 4 ∨ p = 5 ∨ p = 6 ∨ p = 7 ∨ p = 8 ∨ p = 9 ∨ p = 10 ∨ p = 11 ∨ p = 12 ∨ p = 13 ∨ p = 14 := by omega
  clear hk
  rcases hp with rfl | rfl | rfl | rfl | rfl | rfl | rfl | rfl | rfl | rfl | rfl | rfl | rfl | rfl | rfl
  · exact fin _ facts_nil (run_0 _ _)
  · exact fin _ facts_nil (run_1 _ _)
  · exact fin _ facts_nil (run_2 _ _)
  · cases hr : icmp .eql a2 0 with
    | true => exact fin _ (facts_cons hr facts_nil) (run_3_t _ _)
    | false => exact fin _ (facts_cons hr facts_nil) (run_3_f _ _)
  · cases hr : icmp .eql a2 0 with
    | true => exact fin _ (facts_cons hr facts_nil) (run_4_t _ _)
    | false => exact fin _ (facts_cons hr facts_nil) (run_4_f _ _)
  · exact fin _ facts_nil (run_5 _ _)
  · exact fin _ facts_nil (run_6 _ _)
  · exact fin _ facts_nil (run_7 _ _)
  · exact fin _ facts_nil (run_8 _ _)
  · exact fin _ facts_nil (run_9 _ _)
  · cases hr : icmp .lss a1 a2 with
    | true => exact fin _ (facts_cons hr facts_nil) (run_10_t _ _)
    | false => exact fin _ (facts_cons hr facts_nil) (run_10_f _ _)
  · cases hr : icmp .lss (IntKind.u64.wrap a1) (IntKind.u64.wrap a2) with
    | true => exact fin _ (facts_cons hr facts_nil) (run_11_t _ _)
    | false => exact fin _ (facts_cons hr facts_nil) (run_11_f _ _)
  · cases hr : icmp .eql a1 0 with
    | true => exact fin _ (facts_cons hr facts_nil) (run_12_t _ _)
    | false => exact fin _ (facts_cons hr facts_nil) (run_12_f _ _)
  · cases hr : icmp .neq a1 0 with
    | true => exact fin _ (facts_cons hr facts_nil) (run_13_t _ _)
    | false => exact fin _ (facts_cons hr facts_nil) (run_13_f _ _)
  · exact fin _ facts_nil (run_14 _ _)
end Go.Proofs.YteehdbbohjhnoaaGreatDoor.MachOps
