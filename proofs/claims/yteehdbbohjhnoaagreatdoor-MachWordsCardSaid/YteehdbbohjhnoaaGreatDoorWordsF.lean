/-
  Layer 9: each word of the arrays has its own number: what is known of the numbers.
-/
import Derived.Test.YteehdbbohjhnoaaGreatDoorWords
namespace Go.Proofs.YteehdbbohjhnoaaGreatDoor.MachWords
open Go.Xq Go.RowKit Go.Proofs.YteehdbbohjhnoaaGreatDoor
set_option maxHeartbeats 4000000 in
theorem f0_ok {a0 n x0 x1 x2 x3 x4 x5 y0 y1 y2 y3 y4 y5 z : Int} (hn : n = 0) (h0 : 0 ≤ y0 ∧ y0 < 1000) (h1 : 0 ≤ y1 ∧ y1 < 1000) (h2 : 0 ≤ y2 ∧ y2 < 1000) (h3 : 0 ≤ y3 ∧ y3 < 1000) (h4 : 0 ≤ y4 ∧ y4 < 1000) (h5 : 0 ≤ y5 ∧ y5 < 1000) (hz : 0 ≤ z ∧ z < 4096) : FactsOk f0 (fun j => match j with | 0 => a0 | 10 => n | 20 => x0 | 21 => x1 | 22 => x2 | 23 => x3 | 24 => x4 | 25 => x5 | 30 => y0 | 31 => y1 | 32 => y2 | 33 => y3 | 34 => y4 | 35 => y5 | 40 => z | _ => 0) := by
  unfold f0
  repeat' refine facts_cons ?_ ?_
  all_goals first
    | exact facts_nil
    | (simp (disch := omega) [icmp, SI.den, iop, wrap_id, Int.tmod_eq_emod_of_nonneg, Int.tdiv_eq_ediv_of_nonneg]; done)
    | (simp (disch := omega) [icmp, SI.den, iop, wrap_id, Int.tmod_eq_emod_of_nonneg, Int.tdiv_eq_ediv_of_nonneg]; omega)
set_option maxHeartbeats 4000000 in
theorem f1_ok {a0 n x0 x1 x2 x3 x4 x5 y0 y1 y2 y3 y4 y5 z : Int} (hn : n = 1) (h0 : 0 ≤ y0 ∧ y0 < 1000) (h1 : 0 ≤ y1 ∧ y1 < 1000) (h2 : 0 ≤ y2 ∧ y2 < 1000) (h3 : 0 ≤ y3 ∧ y3 < 1000) (h4 : 0 ≤ y4 ∧ y4 < 1000) (h5 : 0 ≤ y5 ∧ y5 < 1000) (hz : 0 ≤ z ∧ z < 4096) : FactsOk f1 (fun j => match j with | 0 => a0 | 10 => n | 20 => x0 | 21 => x1 | 22 => x2 | 23 => x3 | 24 => x4 | 25 => x5 | 30 => y0 | 31 => y1 | 32 => y2 | 33 => y3 | 34 => y4 | 35 => y5 | 40 => z | _ => 0) := by
  unfold f1
  repeat' refine facts_cons ?_ ?_
  all_goals first
    | exact facts_nil
    | (simp (disch := omega) [icmp, SI.den, iop, wrap_id, Int.tmod_eq_emod_of_nonneg, Int.tdiv_eq_ediv_of_nonneg]; done)
    | (simp (disch := omega) [icmp, SI.den, iop, wrap_id, Int.tmod_eq_emod_of_nonneg, Int.tdiv_eq_ediv_of_nonneg]; omega)
set_option maxHeartbeats 4000000 in
theorem f2_ok {a0 n x0 x1 x2 x3 x4 x5 y0 y1 y2 y3 y4 y5 z : Int} (hn : n = 2) (h0 : 0 ≤ y0 ∧ y0 < 1000) (h1 : 0 ≤ y1 ∧ y1 < 1000) (h2 : 0 ≤ y2 ∧ y2 < 1000) (h3 : 0 ≤ y3 ∧ y3 < 1000) (h4 : 0 ≤ y4 ∧ y4 < 1000) (h5 : 0 ≤ y5 ∧ y5 < 1000) (hz : 0 ≤ z ∧ z < 4096) : FactsOk f2 (fun j => match j with | 0 => a0 | 10 => n | 20 => x0 | 21 => x1 | 22 => x2 | 23 => x3 | 24 => x4 | 25 => x5 | 30 => y0 | 31 => y1 | 32 => y2 | 33 => y3 | 34 => y4 | 35 => y5 | 40 => z | _ => 0) := by
  unfold f2
  repeat' refine facts_cons ?_ ?_
  all_goals first
    | exact facts_nil
    | (simp (disch := omega) [icmp, SI.den, iop, wrap_id, Int.tmod_eq_emod_of_nonneg, Int.tdiv_eq_ediv_of_nonneg]; done)
    | (simp (disch := omega) [icmp, SI.den, iop, wrap_id, Int.tmod_eq_emod_of_nonneg, Int.tdiv_eq_ediv_of_nonneg]; omega)
set_option maxHeartbeats 4000000 in
theorem f3_ok {a0 n x0 x1 x2 x3 x4 x5 y0 y1 y2 y3 y4 y5 z : Int} (hn : n = 3) (h0 : 0 ≤ y0 ∧ y0 < 1000) (h1 : 0 ≤ y1 ∧ y1 < 1000) (h2 : 0 ≤ y2 ∧ y2 < 1000) (h3 : 0 ≤ y3 ∧ y3 < 1000) (h4 : 0 ≤ y4 ∧ y4 < 1000) (h5 : 0 ≤ y5 ∧ y5 < 1000) (hz : 0 ≤ z ∧ z < 4096) : FactsOk f3 (fun j => match j with | 0 => a0 | 10 => n | 20 => x0 | 21 => x1 | 22 => x2 | 23 => x3 | 24 => x4 | 25 => x5 | 30 => y0 | 31 => y1 | 32 => y2 | 33 => y3 | 34 => y4 | 35 => y5 | 40 => z | _ => 0) := by
  unfold f3
  repeat' refine facts_cons ?_ ?_
  all_goals first
    | exact facts_nil
    | (simp (disch := omega) [icmp, SI.den, iop, wrap_id, Int.tmod_eq_emod_of_nonneg, Int.tdiv_eq_ediv_of_nonneg]; done)
    | (simp (disch := omega) [icmp, SI.den, iop, wrap_id, Int.tmod_eq_emod_of_nonneg, Int.tdiv_eq_ediv_of_nonneg]; omega)
set_option maxHeartbeats 4000000 in
theorem f4_ok {a0 n x0 x1 x2 x3 x4 x5 y0 y1 y2 y3 y4 y5 z : Int} (hn : n = 4) (h0 : 0 ≤ y0 ∧ y0 < 1000) (h1 : 0 ≤ y1 ∧ y1 < 1000) (h2 : 0 ≤ y2 ∧ y2 < 1000) (h3 : 0 ≤ y3 ∧ y3 < 1000) (h4 : 0 ≤ y4 ∧ y4 < 1000) (h5 : 0 ≤ y5 ∧ y5 < 1000) (hz : 0 ≤ z ∧ z < 4096) : FactsOk f4 (fun j => match j with | 0 => a0 | 10 => n | 20 => x0 | 21 => x1 | 22 => x2 | 23 => x3 | 24 => x4 | 25 => x5 | 30 => y0 | 31 => y1 | 32 => y2 | 33 => y3 | 34 => y4 | 35 => y5 | 40 => z | _ => 0) := by
  unfold f4
  repeat' refine facts_cons ?_ ?_
  all_goals first
    | exact facts_nil
    | (simp (disch := omega) [icmp, SI.den, iop, wrap_id, Int.tmod_eq_emod_of_nonneg, Int.tdiv_eq_ediv_of_nonneg]; done)
    | (simp (disch := omega) [icmp, SI.den, iop, wrap_id, Int.tmod_eq_emod_of_nonneg, Int.tdiv_eq_ediv_of_nonneg]; omega)
set_option maxHeartbeats 4000000 in
theorem f5_ok {a0 n x0 x1 x2 x3 x4 x5 y0 y1 y2 y3 y4 y5 z : Int} (hn : n = 5) (h0 : 0 ≤ y0 ∧ y0 < 1000) (h1 : 0 ≤ y1 ∧ y1 < 1000) (h2 : 0 ≤ y2 ∧ y2 < 1000) (h3 : 0 ≤ y3 ∧ y3 < 1000) (h4 : 0 ≤ y4 ∧ y4 < 1000) (h5 : 0 ≤ y5 ∧ y5 < 1000) (hz : 0 ≤ z ∧ z < 4096) : FactsOk f5 (fun j => match j with | 0 => a0 | 10 => n | 20 => x0 | 21 => x1 | 22 => x2 | 23 => x3 | 24 => x4 | 25 => x5 | 30 => y0 | 31 => y1 | 32 => y2 | 33 => y3 | 34 => y4 | 35 => y5 | 40 => z | _ => 0) := by
  unfold f5
  repeat' refine facts_cons ?_ ?_
  all_goals first
    | exact facts_nil
    | (simp (disch := omega) [icmp, SI.den, iop, wrap_id, Int.tmod_eq_emod_of_nonneg, Int.tdiv_eq_ediv_of_nonneg]; done)
    | (simp (disch := omega) [icmp, SI.den, iop, wrap_id, Int.tmod_eq_emod_of_nonneg, Int.tdiv_eq_ediv_of_nonneg]; omega)
set_option maxHeartbeats 4000000 in
theorem f6_ok {a0 n x0 x1 x2 x3 x4 x5 y0 y1 y2 y3 y4 y5 z : Int} (hn : n = 6) (h0 : 0 ≤ y0 ∧ y0 < 1000) (h1 : 0 ≤ y1 ∧ y1 < 1000) (h2 : 0 ≤ y2 ∧ y2 < 1000) (h3 : 0 ≤ y3 ∧ y3 < 1000) (h4 : 0 ≤ y4 ∧ y4 < 1000) (h5 : 0 ≤ y5 ∧ y5 < 1000) (hz : 0 ≤ z ∧ z < 4096) : FactsOk f6 (fun j => match j with | 0 => a0 | 10 => n | 20 => x0 | 21 => x1 | 22 => x2 | 23 => x3 | 24 => x4 | 25 => x5 | 30 => y0 | 31 => y1 | 32 => y2 | 33 => y3 | 34 => y4 | 35 => y5 | 40 => z | _ => 0) := by
  unfold f6
  repeat' refine facts_cons ?_ ?_
  all_goals first
    | exact facts_nil
    | (simp (disch := omega) [icmp, SI.den, iop, wrap_id, Int.tmod_eq_emod_of_nonneg, Int.tdiv_eq_ediv_of_nonneg]; done)
    | (simp (disch := omega) [icmp, SI.den, iop, wrap_id, Int.tmod_eq_emod_of_nonneg, Int.tdiv_eq_ediv_of_nonneg]; omega)
set_option maxHeartbeats 4000000 in
theorem f7_ok {a0 n x0 x1 x2 x3 x4 x5 y0 y1 y2 y3 y4 y5 z : Int} (hn : 7 ≤ n) (h0 : 0 ≤ y0 ∧ y0 < 1000) (h1 : 0 ≤ y1 ∧ y1 < 1000) (h2 : 0 ≤ y2 ∧ y2 < 1000) (h3 : 0 ≤ y3 ∧ y3 < 1000) (h4 : 0 ≤ y4 ∧ y4 < 1000) (h5 : 0 ≤ y5 ∧ y5 < 1000) (hz : 0 ≤ z ∧ z < 4096) : FactsOk f7 (fun j => match j with | 0 => a0 | 10 => n | 20 => x0 | 21 => x1 | 22 => x2 | 23 => x3 | 24 => x4 | 25 => x5 | 30 => y0 | 31 => y1 | 32 => y2 | 33 => y3 | 34 => y4 | 35 => y5 | 40 => z | _ => 0) := by
  unfold f7
  repeat' refine facts_cons ?_ ?_
  all_goals first
    | exact facts_nil
    | (simp (disch := omega) [icmp, SI.den, iop, wrap_id, Int.tmod_eq_emod_of_nonneg, Int.tdiv_eq_ediv_of_nonneg]; done)
    | (simp (disch := omega) [icmp, SI.den, iop, wrap_id, Int.tmod_eq_emod_of_nonneg, Int.tdiv_eq_ediv_of_nonneg]; omega)
end Go.Proofs.YteehdbbohjhnoaaGreatDoor.MachWords
