/-
  Layer 09: a place that is none, and the like, are faults: whatever the numbers.
-/
import Derived.Test.YteehdbbohjhnoaaGreatDoorFaults0
import Derived.Test.YteehdbbohjhnoaaGreatDoorFaults1
namespace Go.Proofs.YteehdbbohjhnoaaGreatDoor.MachFaults
open Go.Xq Go.RowKit Go.Proofs.YteehdbbohjhnoaaGreatDoor
theorem walk (a0 a1 : Int) (w0 : (Lit.int .i64 a0).wf = true) (w1 : (Lit.int .i64 a1).wf = true) (W : World) (hL : laidMetH Tryz.prog Rows.machFaultsRow.laid W) :
    Calls Tryz.prog 6 #[.int .i64 a0, .int .i64 a1] W fun e W' => e = .returned (.bool true) ∧ Below W.heap.size W W' := by
  have b0 := bnd64 w0
  have b1 := bnd64 w1
  obtain ⟨k0, k1⟩ := pickN_lt a0 (n := 6) (by decide)
  obtain ⟨m0, m1⟩ := pickN_lt a1 (n := 1000) (by decide)
  generalize hk : pickN a0 6 = p at k0 k1
  generalize hn : pickN a1 1000 = n at m0 m1
  have fin : ∀ (q : SI) (F : List Fact), n = q.den (fun j => match j with | 0 => a0 | 1 => a1 | _ => n) → FactsOk F (fun j => match j with | 0 => a0 | 1 => a1 | _ => n) → run q p F W.heap.size (fun k => W.heap[k]?) = true → Calls Tryz.prog 6 #[.int .i64 a0, .int .i64 a1] W fun e W' => e = .returned (.bool true) ∧ Below W.heap.size W W' :=
    fun q F hq hF hrun => true_at (cx_ok q p F hL) 3000 (vs := vsA W.heap.size fun k => W.heap[k]?) (vsA_lt _ _) (Nat.le_refl _) hrun (I := (fun j => match j with | 0 => a0 | 1 => a1 | _ => n)) ⟨hF, b1, hn.trans hq, b0, hk⟩ W rfl (laid_at hL _ _) (Nat.le_refl _) (fun _ _ => rfl)
  have hp : p = 0 ∨ p = 1 ∨ p = 2 ∨ p = 3 ∨ p = 4 ∨ p = 5 := by omega
  clear hk hn
  rcases hp with rfl | rfl | rfl | rfl | rfl | rfl
  · exact fin (.var 2) _ rfl (facts_cons (by simp (disch := omega) [icmp, SI.den, iop, wrap_id, Int.tmod_eq_emod_of_nonneg, Int.tdiv_eq_ediv_of_nonneg]; try omega) (facts_cons (by simp (disch := omega) [icmp, SI.den, iop, wrap_id, Int.tmod_eq_emod_of_nonneg, Int.tdiv_eq_ediv_of_nonneg]; try omega) (facts_cons (by simp (disch := omega) [icmp, SI.den, iop, wrap_id, Int.tmod_eq_emod_of_nonneg, Int.tdiv_eq_ediv_of_nonneg]; try omega) (facts_cons (by simp (disch := omega) [icmp, SI.den, iop, wrap_id, Int.tmod_eq_emod_of_nonneg, Int.tdiv_eq_ediv_of_nonneg]; try omega) facts_nil)))) (run_0 _ _)
  · exact fin (.var 2) _ rfl (facts_cons (by simp (disch := omega) [icmp, SI.den, iop, wrap_id, Int.tmod_eq_emod_of_nonneg, Int.tdiv_eq_ediv_of_nonneg]; try omega) (facts_cons (by simp (disch := omega) [icmp, SI.den, iop, wrap_id, Int.tmod_eq_emod_of_nonneg, Int.tdiv_eq_ediv_of_nonneg]; try omega) (facts_cons (by simp (disch := omega) [icmp, SI.den, iop, wrap_id, Int.tmod_eq_emod_of_nonneg, Int.tdiv_eq_ediv_of_nonneg]; try omega) facts_nil))) (run_1 _ _)
  · exact fin (.var 2) _ rfl (facts_cons (by simp (disch := omega) [icmp, SI.den, iop, wrap_id, Int.tmod_eq_emod_of_nonneg, Int.tdiv_eq_ediv_of_nonneg]; try omega) (facts_cons (by simp (disch := omega) [icmp, SI.den, iop, wrap_id, Int.tmod_eq_emod_of_nonneg, Int.tdiv_eq_ediv_of_nonneg]; try omega) (facts_cons (by simp (disch := omega) [icmp, SI.den, iop, wrap_id, Int.tmod_eq_emod_of_nonneg, Int.tdiv_eq_ediv_of_nonneg]; try omega) (facts_cons (by simp (disch := omega) [icmp, SI.den, iop, wrap_id, Int.tmod_eq_emod_of_nonneg, Int.tdiv_eq_ediv_of_nonneg]; try omega) (facts_cons (by simp (disch := omega) [icmp, SI.den, iop, wrap_id, Int.tmod_eq_emod_of_nonneg, Int.tdiv_eq_ediv_of_nonneg]; try omega) facts_nil))))) (run_2 _ _)
  · by_cases h4 : n % 4 = 0
    · by_cases h0 : n = 0
      · exact fin (.lit 0) _ h0 facts_nil (run_3b _ _)
      by_cases h1 : n = 4
      · exact fin (.lit 4) _ h1 facts_nil (run_3c _ _)
      by_cases h2 : n = 8
      · exact fin (.lit 8) _ h2 facts_nil (run_3d _ _)
      exact fin (.var 2) _ rfl (facts_cons (by simp (disch := omega) [icmp, SI.den, iop, wrap_id, Int.tmod_eq_emod_of_nonneg, Int.tdiv_eq_ediv_of_nonneg]; try omega) (facts_cons (by simp (disch := omega) [icmp, SI.den, iop, wrap_id, Int.tmod_eq_emod_of_nonneg, Int.tdiv_eq_ediv_of_nonneg]; try omega) (facts_cons (by simp (disch := omega) [icmp, SI.den, iop, wrap_id, Int.tmod_eq_emod_of_nonneg, Int.tdiv_eq_ediv_of_nonneg]; try omega) facts_nil))) (run_3e _ _)
    · exact fin (.var 2) _ rfl (facts_cons (by simp (disch := omega) [icmp, SI.den, iop, wrap_id, Int.tmod_eq_emod_of_nonneg, Int.tdiv_eq_ediv_of_nonneg]; try omega) facts_nil) (run_3a _ _)
  · exact fin (.var 2) _ rfl (facts_cons (by simp (disch := omega) [icmp, SI.den, iop, wrap_id, Int.tmod_eq_emod_of_nonneg, Int.tdiv_eq_ediv_of_nonneg]; try omega) (facts_cons (by simp (disch := omega) [icmp, SI.den, iop, wrap_id, Int.tmod_eq_emod_of_nonneg, Int.tdiv_eq_ediv_of_nonneg]; try omega) (facts_cons (by simp (disch := omega) [icmp, SI.den, iop, wrap_id, Int.tmod_eq_emod_of_nonneg, Int.tdiv_eq_ediv_of_nonneg]; try omega) facts_nil))) (run_4 _ _)
  · exact fin (.var 2) _ rfl facts_nil (run_5 _ _)
end Go.Proofs.YteehdbbohjhnoaaGreatDoor.MachFaults
