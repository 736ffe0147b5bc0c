/-
  Layer 09: instructions that move a number do not change it: whatever the numbers.
-/
import Derived.Test.YteehdbbohjhnoaaGreatDoorMoves0
import Derived.Test.YteehdbbohjhnoaaGreatDoorMoves1
import Derived.Test.YteehdbbohjhnoaaGreatDoorMoves2
import Derived.Test.YteehdbbohjhnoaaGreatDoorMoves3
import Derived.Test.YteehdbbohjhnoaaGreatDoorMoves4
import Derived.Test.YteehdbbohjhnoaaGreatDoorMoves5
import Derived.Test.YteehdbbohjhnoaaGreatDoorMoves6
namespace Go.Proofs.YteehdbbohjhnoaaGreatDoor.MachMoves
open Go.Xq Go.RowKit Go.Proofs.YteehdbbohjhnoaaGreatDoor
theorem fs_ok {a0 a1 a2 a3 a4 m n : Int} (m0 : 0 ≤ m) (m1 : m < 10) (n0 : 0 ≤ n) (n1 : n < 200) : FactsOk fs (fun j => match j with | 0 => a0 | 1 => a1 | 2 => a2 | 3 => a3 | 4 => a4 | 5 => m | _ => n) := by
  unfold fs
  repeat' refine facts_cons ?_ ?_
  all_goals first
    | exact facts_nil
    | (simp (disch := omega) [icmp, SI.den, iop, wrap_id, Int.tmod_eq_emod_of_nonneg, Int.tdiv_eq_ediv_of_nonneg]; done)
    | (simp (disch := omega) [icmp, SI.den, iop, wrap_id, Int.tmod_eq_emod_of_nonneg, Int.tdiv_eq_ediv_of_nonneg]; omega)
theorem walk (a0 a1 a2 a3 a4 : Int) (w0 : (Lit.int .i64 a0).wf = true) (w1 : (Lit.int .i64 a1).wf = true) (w2 : (Lit.int .i64 a2).wf = true) (w3 : (Lit.int .i64 a3).wf = true) (w4 : (Lit.int .i64 a4).wf = true) (W : World) (hL : laidMetH Tryz.prog Rows.machMovesRow.laid W) :
    Calls Tryz.prog 4 #[.int .i64 a0, .int .i64 a1, .int .i64 a2, .int .i64 a3, .int .i64 a4] W fun e W' => e = .returned (.bool true) ∧ Below W.heap.size W W' := by
  have b1 := bnd64 w1
  have b2 := bnd64 w2
  have b3 := bnd64 w3
  have b4 := bnd64 w4
  obtain ⟨k0, k1⟩ := pickN_lt a1 (n := 7) (by decide)
  obtain ⟨l0, l1⟩ := pickN_lt a2 (n := 7) (by decide)
  obtain ⟨m0, m1⟩ := pickN_lt a3 (n := 10) (by decide)
  obtain ⟨n0, n1⟩ := pickN_lt a4 (n := 200) (by decide)
  generalize hk : pickN a1 7 = p at k0 k1
  generalize hl : pickN a2 7 = q at l0 l1
  generalize hm : pickN a3 10 = m at m0 m1
  generalize hn : pickN a4 200 = n at n0 n1
  have fin : run p q fs W.heap.size (fun k => W.heap[k]?) = true → Calls Tryz.prog 4 #[.int .i64 a0, .int .i64 a1, .int .i64 a2, .int .i64 a3, .int .i64 a4] W fun e W' => e = .returned (.bool true) ∧ Below W.heap.size W W' :=
    fun hrun => true_at (cx_ok p q fs hL) 3000 (vs := vsA W.heap.size fun k => W.heap[k]?) (vsA_lt _ _) (Nat.le_refl _) hrun (I := (fun j => match j with | 0 => a0 | 1 => a1 | 2 => a2 | 3 => a3 | 4 => a4 | 5 => m | _ => n)) ⟨fs_ok m0 m1 n0 n1, b1, hk, b2, hl, b3, hm, b4, hn⟩ W rfl (laid_at hL _ _) (Nat.le_refl _) (fun _ _ => rfl)
  have hp : p = 0 ∨ p = 1 ∨ p = 2 ∨ p = 3 ∨ p = 4 ∨ p = 5 ∨ p = 6 := by omega
  have hq : q = 0 ∨ q = 1 ∨ q = 2 ∨ q = 3 ∨ q = 4 ∨ q = 5 ∨ q = 6 := by omega
  clear hk hl hm hn
  rcases hp with rfl | rfl | rfl | rfl | rfl | rfl | rfl <;> rcases hq with rfl | rfl | rfl | rfl | rfl | rfl | rfl
  · exact fin (run_0_0 _ _)
  · exact fin (run_0_1 _ _)
  · exact fin (run_0_2 _ _)
  · exact fin (run_0_3 _ _)
  · exact fin (run_0_4 _ _)
  · exact fin (run_0_5 _ _)
  · exact fin (run_0_6 _ _)
  · exact fin (run_1_0 _ _)
  · exact fin (run_1_1 _ _)
  · exact fin (run_1_2 _ _)
  · exact fin (run_1_3 _ _)
  · exact fin (run_1_4 _ _)
  · exact fin (run_1_5 _ _)
  · exact fin (run_1_6 _ _)
  · exact fin (run_2_0 _ _)
  · exact fin (run_2_1 _ _)
  · exact fin (run_2_2 _ _)
  · exact fin (run_2_3 _ _)
  · exact fin (run_2_4 _ _)
  · exact fin (run_2_5 _ _)
  · exact fin (run_2_6 _ _)
  · exact fin (run_3_0 _ _)
  · exact fin (run_3_1 _ _)
  · exact fin (run_3_2 _ _)
  · exact fin (run_3_3 _ _)
  · exact fin (run_3_4 _ _)
  · exact fin (run_3_5 _ _)
  · exact fin (run_3_6 _ _)
  · exact fin (run_4_0 _ _)
  · exact fin (run_4_1 _ _)
  · exact fin (run_4_2 _ _)
  · exact fin (run_4_3 _ _)
  · exact fin (run_4_4 _ _)
  · exact fin (run_4_5 _ _)
  · exact fin (run_4_6 _ _)
  · exact fin (run_5_0 _ _)
  · exact fin (run_5_1 _ _)
  · exact fin (run_5_2 _ _)
  · exact fin (run_5_3 _ _)
  · exact fin (run_5_4 _ _)
  · exact fin (run_5_5 _ _)
  · exact fin (run_5_6 _ _)
  · exact fin (run_6_0 _ _)
  · exact fin (run_6_1 _ _)
  · exact fin (run_6_2 _ _)
  · exact fin (run_6_3 _ _)
  · exact fin (run_6_4 _ _)
  · exact fin (run_6_5 _ _)
  · exact fin (run_6_6 _ _)
end Go.Proofs.YteehdbbohjhnoaaGreatDoor.MachMoves
