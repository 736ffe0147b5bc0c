/-
  Layer 09: a branch goes just where its numbers are as it says: whatever the numbers.
-/
import Derived.Test.YteehdbbohjhnoaaGreatDoorBranch0
import Derived.Test.YteehdbbohjhnoaaGreatDoorBranch1
namespace Go.Proofs.YteehdbbohjhnoaaGreatDoor.MachBranch
open Go.Xq Go.RowKit Go.Proofs.YteehdbbohjhnoaaGreatDoor
theorem walk (a0 a1 a2 : Int) (w0 : (Lit.int .i64 a0).wf = true) (w1 : (Lit.int .i64 a1).wf = true) (w2 : (Lit.int .i64 a2).wf = true) (W : World) (hL : laidMetH Tryz.prog Rows.machBranchRow.laid W) :
    Calls Tryz.prog 9 #[.int .i64 a0, .int .i64 a1, .int .i64 a2] W fun e W' => e = .returned (.bool true) ∧ Below W.heap.size W W' := by
  have b2 := bnd64 w2
  obtain ⟨k0, k1⟩ := pickN_lt a2 (n := 4) (by decide)
  generalize hk : pickN a2 4 = p at k0 k1
  have fin : ∀ e l : Bool, icmp .eql a0 a1 = e → icmp .neq a0 a1 = (!e) → icmp .lss a0 a1 = l → icmp .geq a0 a1 = (!l) → run p [⟨.eql, .var 0, .var 1, e⟩, ⟨.neq, .var 0, .var 1, !e⟩, ⟨.lss, .var 0, .var 1, l⟩, ⟨.geq, .var 0, .var 1, !l⟩] W.heap.size (fun k => W.heap[k]?) = true → Calls Tryz.prog 9 #[.int .i64 a0, .int .i64 a1, .int .i64 a2] W fun e W' => e = .returned (.bool true) ∧ Below W.heap.size W W' :=
    fun e l h1 h2 h3 h4 hrun => true_at (cx_ok p _ hL) 3000 (vs := vsA W.heap.size fun k => W.heap[k]?) (vsA_lt _ _) (Nat.le_refl _) hrun (I := fun j => match j with | 0 => a0 | 1 => a1 | _ => a2) ⟨facts_cons h1 (facts_cons h2 (facts_cons h3 (facts_cons h4 facts_nil))), b2, hk⟩ W rfl (laid_at hL _ _) (Nat.le_refl _) (fun _ _ => rfl)
  have hp : p = 0 ∨ p = 1 ∨ p = 2 ∨ p = 3 := by omega
  clear hk
  rcases Int.lt_trichotomy a0 a1 with h | h | h
  · have f := fin false true (by simp [icmp]; omega) (by simp [icmp]; omega) (by simp [icmp]; omega) (by simp [icmp]; omega)
    rcases hp with rfl | rfl | rfl | rfl
    · exact f (run_0_l _ _)
    · exact f (run_1_l _ _)
    · exact f (run_2_l _ _)
    · exact f (run_3_l _ _)
  · have f := fin true false (by simp [icmp]; omega) (by simp [icmp]; omega) (by simp [icmp]; omega) (by simp [icmp]; omega)
    rcases hp with rfl | rfl | rfl | rfl
    · exact f (run_0_e _ _)
    · exact f (run_1_e _ _)
    · exact f (run_2_e _ _)
    · exact f (run_3_e _ _)
  · have f := fin false false (by simp [icmp]; omega) (by simp [icmp]; omega) (by simp [icmp]; omega) (by simp [icmp]; omega)
    rcases hp with rfl | rfl | rfl | rfl
    · exact f (run_0_g _ _)
    · exact f (run_1_g _ _)
    · exact f (run_2_g _ _)
    · exact f (run_3_g _ _)
end Go.Proofs.YteehdbbohjhnoaaGreatDoor.MachBranch
