/-
  Layer 7: what is read and written is of the registers that there are: whatever the instruction.
-/
import Derived.Test.YtmkjjmebpbbhlaaDoorRegs0
import Derived.Test.YtmkjjmebpbbhlaaDoorRegs1
import Derived.Test.YtmkjjmebpbbhlaaDoorRegs2
import Derived.Test.YtmkjjmebpbbhlaaDoorRegs3
import Derived.Test.YtmkjjmebpbbhlaaDoorRegs4
import Derived.Test.YtmkjjmebpbbhlaaDoorRegs5
import Derived.Test.YtmkjjmebpbbhlaaDoorRegs6
import Derived.Test.YtmkjjmebpbbhlaaDoorRegs7
import Derived.Test.YtmkjjmebpbbhlaaDoorRegs8
import Derived.Test.YtmkjjmebpbbhlaaDoorRegs9
import Derived.Test.YtmkjjmebpbbhlaaDoorRegs10
import Derived.Test.YtmkjjmebpbbhlaaDoorRegs11
namespace Go.Proofs.YtmkjjmebpbbhlaaDoor.InstrRegisters
open Go.Xq Go.RowKit Go.Proofs.YtmkjjmebpbbhlaaDoor
theorem fu_ok {a0 a1 a2 a3 a4 a5 a6 d a b c n : Int} (d0 : 0 ≤ d) (d1 : d < 32) (e0 : 0 ≤ a) (e1 : a < 32) (f0 : 0 ≤ b) (f1 : b < 32) (c0 : 0 ≤ c) (c1 : c < 4095) (n0 : 0 ≤ n) (n1 : n < 1000) : FactsOk fu (fun j => match j with | 0 => a0 | 1 => a1 | 2 => a2 | 3 => a3 | 4 => a4 | 5 => a5 | 6 => a6 | 10 => d | 11 => a | 12 => b | 13 => c | _ => n) := by
  unfold fu
  repeat' refine facts_cons ?_ ?_
  all_goals first
    | exact facts_nil
    | (simp (disch := omega) [icmp, SI.den, iop, wrap_id]; done)
    | (simp (disch := omega) [icmp, SI.den, iop, wrap_id]; omega)
theorem fa_ok {a0 a1 a2 a3 a4 a5 a6 d a b c n : Int} (e0 : 0 ≤ a) (x : Bool) (h : decide (a = 0) = x) : FactsOk (fa x) (fun j => match j with | 0 => a0 | 1 => a1 | 2 => a2 | 3 => a3 | 4 => a4 | 5 => a5 | 6 => a6 | 10 => d | 11 => a | 12 => b | 13 => c | _ => n) := by
  subst h
  refine facts_cons ?_ (facts_cons ?_ facts_nil)
  · by_cases h : a = 0 <;> simp [icmp, SI.den, h]
  · by_cases h : a = 0 <;> simp [icmp, SI.den, h] <;> omega
theorem fb_ok {a0 a1 a2 a3 a4 a5 a6 d a b c n : Int} (f0 : 0 ≤ b) (x : Bool) (h : decide (b = 0) = x) : FactsOk (fb x) (fun j => match j with | 0 => a0 | 1 => a1 | 2 => a2 | 3 => a3 | 4 => a4 | 5 => a5 | 6 => a6 | 10 => d | 11 => a | 12 => b | 13 => c | _ => n) := by
  subst h
  refine facts_cons ?_ (facts_cons ?_ facts_nil)
  · by_cases h : b = 0 <;> simp [icmp, SI.den, h]
  · by_cases h : b = 0 <;> simp [icmp, SI.den, h] <;> omega
theorem fe_ok {a0 a1 a2 a3 a4 a5 a6 d a b c n : Int} (x : Bool) (h : decide (b = a) = x) : FactsOk (fe x) (fun j => match j with | 0 => a0 | 1 => a1 | 2 => a2 | 3 => a3 | 4 => a4 | 5 => a5 | 6 => a6 | 10 => d | 11 => a | 12 => b | 13 => c | _ => n) := by
  subst h
  refine facts_cons ?_ (facts_cons ?_ facts_nil)
  · by_cases h : b = a
    · simp [icmp, SI.den, h]
    · simp [icmp, SI.den, h]
  · by_cases h : b = a
    · simp [icmp, SI.den, h]
    · have h' : ¬ a = b := fun e => h e.symm
      simp [icmp, SI.den, h, h']
theorem runs (p q : Int) (p0 : 0 ≤ p) (p1 : p < 28) (q0 : 0 ≤ q) (q1 : q < 3) (x y z : Bool) (hxy : (x, y, z) ∈ [(true, true, true), (true, false, false), (false, true, false), (false, false, true), (false, false, false)]) (bb : Nat) (h0 : Nat → Option Obj) :
    run p q fu bb h0 = true ∨ run p q (fu ++ fa x) bb h0 = true ∨ run p q (fu ++ (fa x ++ (fb y ++ fe z))) bb h0 = true := by
  have hp : p = 0 ∨ p = 1 ∨ p = 2 ∨ p = 3 ∨ p = 4 ∨ p = 5 ∨ p = 6 ∨ p = 7 ∨ p = 8 ∨ p = 9 ∨ p = 10 ∨ p = 11 ∨ p = 12 ∨ p = 13 ∨ p = 14 ∨ p = 15 ∨ p = 16 ∨ p = 17 ∨ p = 18 ∨ p = 19 ∨ p = 20 ∨ p = 21 ∨ p = 22 ∨ p = 23 ∨ p = 24 ∨ p = 25 ∨ p = 26 ∨ p = 27 := by omega
  have hq : q = 0 ∨ q = 1 ∨ q = 2 := by omega
  simp only [List.mem_cons, List.not_mem_nil, or_false, Prod.mk.injEq] at hxy
  rcases hp with rfl | rfl | rfl | rfl | rfl | rfl | rfl | rfl | rfl | rfl | rfl | rfl | rfl | rfl | rfl | rfl | rfl | rfl | rfl | rfl | rfl | rfl | rfl | rfl | rfl | rfl | rfl | rfl <;> rcases hq with rfl | rfl | rfl
  · rcases hxy with ⟨rfl, rfl, rfl⟩ | ⟨rfl, rfl, rfl⟩ | ⟨rfl, rfl, rfl⟩ | ⟨rfl, rfl, rfl⟩ | ⟨rfl, rfl, rfl⟩
    · exact Or.inr (Or.inr (run_0_0_ttt _ _))
    · exact Or.inr (Or.inr (run_0_0_tff _ _))
    · exact Or.inr (Or.inr (run_0_0_ftf _ _))
    · exact Or.inr (Or.inr (run_0_0_fft _ _))
    · exact Or.inr (Or.inr (run_0_0_fff _ _))
  · rcases hxy with ⟨rfl, rfl, rfl⟩ | ⟨rfl, rfl, rfl⟩ | ⟨rfl, rfl, rfl⟩ | ⟨rfl, rfl, rfl⟩ | ⟨rfl, rfl, rfl⟩
    · exact Or.inr (Or.inr (run_0_1_ttt _ _))
    · exact Or.inr (Or.inr (run_0_1_tff _ _))
    · exact Or.inr (Or.inr (run_0_1_ftf _ _))
    · exact Or.inr (Or.inr (run_0_1_fft _ _))
    · exact Or.inr (Or.inr (run_0_1_fff _ _))
  · rcases hxy with ⟨rfl, rfl, rfl⟩ | ⟨rfl, rfl, rfl⟩ | ⟨rfl, rfl, rfl⟩ | ⟨rfl, rfl, rfl⟩ | ⟨rfl, rfl, rfl⟩
    · exact Or.inr (Or.inr (run_0_2_ttt _ _))
    · exact Or.inr (Or.inr (run_0_2_tff _ _))
    · exact Or.inr (Or.inr (run_0_2_ftf _ _))
    · exact Or.inr (Or.inr (run_0_2_fft _ _))
    · exact Or.inr (Or.inr (run_0_2_fff _ _))
  · rcases hxy with ⟨rfl, rfl, rfl⟩ | ⟨rfl, rfl, rfl⟩ | ⟨rfl, rfl, rfl⟩ | ⟨rfl, rfl, rfl⟩ | ⟨rfl, rfl, rfl⟩
    · exact Or.inr (Or.inr (run_1_0_ttt _ _))
    · exact Or.inr (Or.inr (run_1_0_tff _ _))
    · exact Or.inr (Or.inr (run_1_0_ftf _ _))
    · exact Or.inr (Or.inr (run_1_0_fft _ _))
    · exact Or.inr (Or.inr (run_1_0_fff _ _))
  · rcases hxy with ⟨rfl, rfl, rfl⟩ | ⟨rfl, rfl, rfl⟩ | ⟨rfl, rfl, rfl⟩ | ⟨rfl, rfl, rfl⟩ | ⟨rfl, rfl, rfl⟩
    · exact Or.inr (Or.inr (run_1_1_ttt _ _))
    · exact Or.inr (Or.inr (run_1_1_tff _ _))
    · exact Or.inr (Or.inr (run_1_1_ftf _ _))
    · exact Or.inr (Or.inr (run_1_1_fft _ _))
    · exact Or.inr (Or.inr (run_1_1_fff _ _))
  · rcases hxy with ⟨rfl, rfl, rfl⟩ | ⟨rfl, rfl, rfl⟩ | ⟨rfl, rfl, rfl⟩ | ⟨rfl, rfl, rfl⟩ | ⟨rfl, rfl, rfl⟩
    · exact Or.inr (Or.inr (run_1_2_ttt _ _))
    · exact Or.inr (Or.inr (run_1_2_tff _ _))
    · exact Or.inr (Or.inr (run_1_2_ftf _ _))
    · exact Or.inr (Or.inr (run_1_2_fft _ _))
    · exact Or.inr (Or.inr (run_1_2_fff _ _))
  · rcases hxy with ⟨rfl, rfl, rfl⟩ | ⟨rfl, rfl, rfl⟩ | ⟨rfl, rfl, rfl⟩ | ⟨rfl, rfl, rfl⟩ | ⟨rfl, rfl, rfl⟩
    · exact Or.inr (Or.inr (run_2_0_ttt _ _))
    · exact Or.inr (Or.inr (run_2_0_tff _ _))
    · exact Or.inr (Or.inr (run_2_0_ftf _ _))
    · exact Or.inr (Or.inr (run_2_0_fft _ _))
    · exact Or.inr (Or.inr (run_2_0_fff _ _))
  · rcases hxy with ⟨rfl, rfl, rfl⟩ | ⟨rfl, rfl, rfl⟩ | ⟨rfl, rfl, rfl⟩ | ⟨rfl, rfl, rfl⟩ | ⟨rfl, rfl, rfl⟩
    · exact Or.inr (Or.inr (run_2_1_ttt _ _))
    · exact Or.inr (Or.inr (run_2_1_tff _ _))
    · exact Or.inr (Or.inr (run_2_1_ftf _ _))
    · exact Or.inr (Or.inr (run_2_1_fft _ _))
    · exact Or.inr (Or.inr (run_2_1_fff _ _))
  · rcases hxy with ⟨rfl, rfl, rfl⟩ | ⟨rfl, rfl, rfl⟩ | ⟨rfl, rfl, rfl⟩ | ⟨rfl, rfl, rfl⟩ | ⟨rfl, rfl, rfl⟩
    · exact Or.inr (Or.inr (run_2_2_ttt _ _))
    · exact Or.inr (Or.inr (run_2_2_tff _ _))
    · exact Or.inr (Or.inr (run_2_2_ftf _ _))
    · exact Or.inr (Or.inr (run_2_2_fft _ _))
    · exact Or.inr (Or.inr (run_2_2_fff _ _))
  · rcases hxy with ⟨rfl, rfl, rfl⟩ | ⟨rfl, rfl, rfl⟩ | ⟨rfl, rfl, rfl⟩ | ⟨rfl, rfl, rfl⟩ | ⟨rfl, rfl, rfl⟩
    · exact Or.inr (Or.inr (run_3_0_ttt _ _))
    · exact Or.inr (Or.inr (run_3_0_tff _ _))
    · exact Or.inr (Or.inr (run_3_0_ftf _ _))
    · exact Or.inr (Or.inr (run_3_0_fft _ _))
    · exact Or.inr (Or.inr (run_3_0_fff _ _))
  · rcases hxy with ⟨rfl, rfl, rfl⟩ | ⟨rfl, rfl, rfl⟩ | ⟨rfl, rfl, rfl⟩ | ⟨rfl, rfl, rfl⟩ | ⟨rfl, rfl, rfl⟩
    · exact Or.inr (Or.inr (run_3_1_ttt _ _))
    · exact Or.inr (Or.inr (run_3_1_tff _ _))
    · exact Or.inr (Or.inr (run_3_1_ftf _ _))
    · exact Or.inr (Or.inr (run_3_1_fft _ _))
    · exact Or.inr (Or.inr (run_3_1_fff _ _))
  · rcases hxy with ⟨rfl, rfl, rfl⟩ | ⟨rfl, rfl, rfl⟩ | ⟨rfl, rfl, rfl⟩ | ⟨rfl, rfl, rfl⟩ | ⟨rfl, rfl, rfl⟩
    · exact Or.inr (Or.inr (run_3_2_ttt _ _))
    · exact Or.inr (Or.inr (run_3_2_tff _ _))
    · exact Or.inr (Or.inr (run_3_2_ftf _ _))
    · exact Or.inr (Or.inr (run_3_2_fft _ _))
    · exact Or.inr (Or.inr (run_3_2_fff _ _))
  · rcases hxy with ⟨rfl, rfl, rfl⟩ | ⟨rfl, rfl, rfl⟩ | ⟨rfl, rfl, rfl⟩ | ⟨rfl, rfl, rfl⟩ | ⟨rfl, rfl, rfl⟩
    · exact Or.inr (Or.inr (run_4_0_ttt _ _))
    · exact Or.inr (Or.inr (run_4_0_tff _ _))
    · exact Or.inr (Or.inr (run_4_0_ftf _ _))
    · exact Or.inr (Or.inr (run_4_0_fft _ _))
    · exact Or.inr (Or.inr (run_4_0_fff _ _))
  · rcases hxy with ⟨rfl, rfl, rfl⟩ | ⟨rfl, rfl, rfl⟩ | ⟨rfl, rfl, rfl⟩ | ⟨rfl, rfl, rfl⟩ | ⟨rfl, rfl, rfl⟩
    · exact Or.inr (Or.inr (run_4_1_ttt _ _))
    · exact Or.inr (Or.inr (run_4_1_tff _ _))
    · exact Or.inr (Or.inr (run_4_1_ftf _ _))
    · exact Or.inr (Or.inr (run_4_1_fft _ _))
    · exact Or.inr (Or.inr (run_4_1_fff _ _))
  · rcases hxy with ⟨rfl, rfl, rfl⟩ | ⟨rfl, rfl, rfl⟩ | ⟨rfl, rfl, rfl⟩ | ⟨rfl, rfl, rfl⟩ | ⟨rfl, rfl, rfl⟩
    · exact Or.inr (Or.inr (run_4_2_ttt _ _))
    · exact Or.inr (Or.inr (run_4_2_tff _ _))
    · exact Or.inr (Or.inr (run_4_2_ftf _ _))
    · exact Or.inr (Or.inr (run_4_2_fft _ _))
    · exact Or.inr (Or.inr (run_4_2_fff _ _))
  · rcases hxy with ⟨rfl, rfl, rfl⟩ | ⟨rfl, rfl, rfl⟩ | ⟨rfl, rfl, rfl⟩ | ⟨rfl, rfl, rfl⟩ | ⟨rfl, rfl, rfl⟩
    · exact Or.inr (Or.inr (run_5_0_ttt _ _))
    · exact Or.inr (Or.inr (run_5_0_tff _ _))
    · exact Or.inr (Or.inr (run_5_0_ftf _ _))
    · exact Or.inr (Or.inr (run_5_0_fft _ _))
    · exact Or.inr (Or.inr (run_5_0_fff _ _))
  · rcases hxy with ⟨rfl, rfl, rfl⟩ | ⟨rfl, rfl, rfl⟩ | ⟨rfl, rfl, rfl⟩ | ⟨rfl, rfl, rfl⟩ | ⟨rfl, rfl, rfl⟩
    · exact Or.inr (Or.inr (run_5_1_ttt _ _))
    · exact Or.inr (Or.inr (run_5_1_tff _ _))
    · exact Or.inr (Or.inr (run_5_1_ftf _ _))
    · exact Or.inr (Or.inr (run_5_1_fft _ _))
    · exact Or.inr (Or.inr (run_5_1_fff _ _))
  · rcases hxy with ⟨rfl, rfl, rfl⟩ | ⟨rfl, rfl, rfl⟩ | ⟨rfl, rfl, rfl⟩ | ⟨rfl, rfl, rfl⟩ | ⟨rfl, rfl, rfl⟩
    · exact Or.inr (Or.inr (run_5_2_ttt _ _))
    · exact Or.inr (Or.inr (run_5_2_tff _ _))
    · exact Or.inr (Or.inr (run_5_2_ftf _ _))
    · exact Or.inr (Or.inr (run_5_2_fft _ _))
    · exact Or.inr (Or.inr (run_5_2_fff _ _))
  · rcases hxy with ⟨rfl, rfl, rfl⟩ | ⟨rfl, rfl, rfl⟩ | ⟨rfl, rfl, rfl⟩ | ⟨rfl, rfl, rfl⟩ | ⟨rfl, rfl, rfl⟩
    · exact Or.inr (Or.inr (run_6_0_ttt _ _))
    · exact Or.inr (Or.inr (run_6_0_tff _ _))
    · exact Or.inr (Or.inr (run_6_0_ftf _ _))
    · exact Or.inr (Or.inr (run_6_0_fft _ _))
    · exact Or.inr (Or.inr (run_6_0_fff _ _))
  · rcases hxy with ⟨rfl, rfl, rfl⟩ | ⟨rfl, rfl, rfl⟩ | ⟨rfl, rfl, rfl⟩ | ⟨rfl, rfl, rfl⟩ | ⟨rfl, rfl, rfl⟩
    · exact Or.inr (Or.inr (run_6_1_ttt _ _))
    · exact Or.inr (Or.inr (run_6_1_tff _ _))
    · exact Or.inr (Or.inr (run_6_1_ftf _ _))
    · exact Or.inr (Or.inr (run_6_1_fft _ _))
    · exact Or.inr (Or.inr (run_6_1_fff _ _))
  · rcases hxy with ⟨rfl, rfl, rfl⟩ | ⟨rfl, rfl, rfl⟩ | ⟨rfl, rfl, rfl⟩ | ⟨rfl, rfl, rfl⟩ | ⟨rfl, rfl, rfl⟩
    · exact Or.inr (Or.inr (run_6_2_ttt _ _))
    · exact Or.inr (Or.inr (run_6_2_tff _ _))
    · exact Or.inr (Or.inr (run_6_2_ftf _ _))
    · exact Or.inr (Or.inr (run_6_2_fft _ _))
    · exact Or.inr (Or.inr (run_6_2_fff _ _))
  · rcases hxy with ⟨rfl, rfl, rfl⟩ | ⟨rfl, rfl, rfl⟩ | ⟨rfl, rfl, rfl⟩ | ⟨rfl, rfl, rfl⟩ | ⟨rfl, rfl, rfl⟩
    · exact Or.inr (Or.inr (run_7_0_ttt _ _))
    · exact Or.inr (Or.inr (run_7_0_tff _ _))
    · exact Or.inr (Or.inr (run_7_0_ftf _ _))
    · exact Or.inr (Or.inr (run_7_0_fft _ _))
    · exact Or.inr (Or.inr (run_7_0_fff _ _))
  · rcases hxy with ⟨rfl, rfl, rfl⟩ | ⟨rfl, rfl, rfl⟩ | ⟨rfl, rfl, rfl⟩ | ⟨rfl, rfl, rfl⟩ | ⟨rfl, rfl, rfl⟩
    · exact Or.inr (Or.inr (run_7_1_ttt _ _))
    · exact Or.inr (Or.inr (run_7_1_tff _ _))
    · exact Or.inr (Or.inr (run_7_1_ftf _ _))
    · exact Or.inr (Or.inr (run_7_1_fft _ _))
    · exact Or.inr (Or.inr (run_7_1_fff _ _))
  · rcases hxy with ⟨rfl, rfl, rfl⟩ | ⟨rfl, rfl, rfl⟩ | ⟨rfl, rfl, rfl⟩ | ⟨rfl, rfl, rfl⟩ | ⟨rfl, rfl, rfl⟩
    · exact Or.inr (Or.inr (run_7_2_ttt _ _))
    · exact Or.inr (Or.inr (run_7_2_tff _ _))
    · exact Or.inr (Or.inr (run_7_2_ftf _ _))
    · exact Or.inr (Or.inr (run_7_2_fft _ _))
    · exact Or.inr (Or.inr (run_7_2_fff _ _))
  · rcases hxy with ⟨rfl, rfl, rfl⟩ | ⟨rfl, rfl, rfl⟩ | ⟨rfl, rfl, rfl⟩ | ⟨rfl, rfl, rfl⟩ | ⟨rfl, rfl, rfl⟩
    · exact Or.inr (Or.inr (run_8_0_ttt _ _))
    · exact Or.inr (Or.inr (run_8_0_tff _ _))
    · exact Or.inr (Or.inr (run_8_0_ftf _ _))
    · exact Or.inr (Or.inr (run_8_0_fft _ _))
    · exact Or.inr (Or.inr (run_8_0_fff _ _))
  · rcases hxy with ⟨rfl, rfl, rfl⟩ | ⟨rfl, rfl, rfl⟩ | ⟨rfl, rfl, rfl⟩ | ⟨rfl, rfl, rfl⟩ | ⟨rfl, rfl, rfl⟩
    · exact Or.inr (Or.inr (run_8_1_ttt _ _))
    · exact Or.inr (Or.inr (run_8_1_tff _ _))
    · exact Or.inr (Or.inr (run_8_1_ftf _ _))
    · exact Or.inr (Or.inr (run_8_1_fft _ _))
    · exact Or.inr (Or.inr (run_8_1_fff _ _))
  · rcases hxy with ⟨rfl, rfl, rfl⟩ | ⟨rfl, rfl, rfl⟩ | ⟨rfl, rfl, rfl⟩ | ⟨rfl, rfl, rfl⟩ | ⟨rfl, rfl, rfl⟩
    · exact Or.inr (Or.inr (run_8_2_ttt _ _))
    · exact Or.inr (Or.inr (run_8_2_tff _ _))
    · exact Or.inr (Or.inr (run_8_2_ftf _ _))
    · exact Or.inr (Or.inr (run_8_2_fft _ _))
    · exact Or.inr (Or.inr (run_8_2_fff _ _))
  · rcases hxy with ⟨rfl, rfl, rfl⟩ | ⟨rfl, rfl, rfl⟩ | ⟨rfl, rfl, rfl⟩ | ⟨rfl, rfl, rfl⟩ | ⟨rfl, rfl, rfl⟩
    · exact Or.inr (Or.inr (run_9_0_ttt _ _))
    · exact Or.inr (Or.inr (run_9_0_tff _ _))
    · exact Or.inr (Or.inr (run_9_0_ftf _ _))
    · exact Or.inr (Or.inr (run_9_0_fft _ _))
    · exact Or.inr (Or.inr (run_9_0_fff _ _))
  · rcases hxy with ⟨rfl, rfl, rfl⟩ | ⟨rfl, rfl, rfl⟩ | ⟨rfl, rfl, rfl⟩ | ⟨rfl, rfl, rfl⟩ | ⟨rfl, rfl, rfl⟩
    · exact Or.inr (Or.inr (run_9_1_ttt _ _))
    · exact Or.inr (Or.inr (run_9_1_tff _ _))
    · exact Or.inr (Or.inr (run_9_1_ftf _ _))
    · exact Or.inr (Or.inr (run_9_1_fft _ _))
    · exact Or.inr (Or.inr (run_9_1_fff _ _))
  · rcases hxy with ⟨rfl, rfl, rfl⟩ | ⟨rfl, rfl, rfl⟩ | ⟨rfl, rfl, rfl⟩ | ⟨rfl, rfl, rfl⟩ | ⟨rfl, rfl, rfl⟩
    · exact Or.inr (Or.inr (run_9_2_ttt _ _))
    · exact Or.inr (Or.inr (run_9_2_tff _ _))
    · exact Or.inr (Or.inr (run_9_2_ftf _ _))
    · exact Or.inr (Or.inr (run_9_2_fft _ _))
    · exact Or.inr (Or.inr (run_9_2_fff _ _))
  · rcases hxy with ⟨rfl, rfl, rfl⟩ | ⟨rfl, rfl, rfl⟩ | ⟨rfl, rfl, rfl⟩ | ⟨rfl, rfl, rfl⟩ | ⟨rfl, rfl, rfl⟩
    · exact Or.inr (Or.inr (run_10_0_ttt _ _))
    · exact Or.inr (Or.inr (run_10_0_tff _ _))
    · exact Or.inr (Or.inr (run_10_0_ftf _ _))
    · exact Or.inr (Or.inr (run_10_0_fft _ _))
    · exact Or.inr (Or.inr (run_10_0_fff _ _))
  · rcases hxy with ⟨rfl, rfl, rfl⟩ | ⟨rfl, rfl, rfl⟩ | ⟨rfl, rfl, rfl⟩ | ⟨rfl, rfl, rfl⟩ | ⟨rfl, rfl, rfl⟩
    · exact Or.inr (Or.inr (run_10_1_ttt _ _))
    · exact Or.inr (Or.inr (run_10_1_tff _ _))
    · exact Or.inr (Or.inr (run_10_1_ftf _ _))
    · exact Or.inr (Or.inr (run_10_1_fft _ _))
    · exact Or.inr (Or.inr (run_10_1_fff _ _))
  · rcases hxy with ⟨rfl, rfl, rfl⟩ | ⟨rfl, rfl, rfl⟩ | ⟨rfl, rfl, rfl⟩ | ⟨rfl, rfl, rfl⟩ | ⟨rfl, rfl, rfl⟩
    · exact Or.inr (Or.inr (run_10_2_ttt _ _))
    · exact Or.inr (Or.inr (run_10_2_tff _ _))
    · exact Or.inr (Or.inr (run_10_2_ftf _ _))
    · exact Or.inr (Or.inr (run_10_2_fft _ _))
    · exact Or.inr (Or.inr (run_10_2_fff _ _))
  · rcases hxy with ⟨rfl, rfl, rfl⟩ | ⟨rfl, rfl, rfl⟩ | ⟨rfl, rfl, rfl⟩ | ⟨rfl, rfl, rfl⟩ | ⟨rfl, rfl, rfl⟩
    · exact Or.inr (Or.inr (run_11_0_ttt _ _))
    · exact Or.inr (Or.inr (run_11_0_tff _ _))
    · exact Or.inr (Or.inr (run_11_0_ftf _ _))
    · exact Or.inr (Or.inr (run_11_0_fft _ _))
    · exact Or.inr (Or.inr (run_11_0_fff _ _))
  · rcases hxy with ⟨rfl, rfl, rfl⟩ | ⟨rfl, rfl, rfl⟩ | ⟨rfl, rfl, rfl⟩ | ⟨rfl, rfl, rfl⟩ | ⟨rfl, rfl, rfl⟩
    · exact Or.inr (Or.inr (run_11_1_ttt _ _))
    · exact Or.inr (Or.inr (run_11_1_tff _ _))
    · exact Or.inr (Or.inr (run_11_1_ftf _ _))
    · exact Or.inr (Or.inr (run_11_1_fft _ _))
    · exact Or.inr (Or.inr (run_11_1_fff _ _))
  · rcases hxy with ⟨rfl, rfl, rfl⟩ | ⟨rfl, rfl, rfl⟩ | ⟨rfl, rfl, rfl⟩ | ⟨rfl, rfl, rfl⟩ | ⟨rfl, rfl, rfl⟩
    · exact Or.inr (Or.inr (run_11_2_ttt _ _))
    · exact Or.inr (Or.inr (run_11_2_tff _ _))
    · exact Or.inr (Or.inr (run_11_2_ftf _ _))
    · exact Or.inr (Or.inr (run_11_2_fft _ _))
    · exact Or.inr (Or.inr (run_11_2_fff _ _))
  · exact Or.inr (Or.inl (match x with | false => run_12_0_f _ _ | true => run_12_0_t _ _))
  · exact Or.inr (Or.inl (match x with | false => run_12_1_f _ _ | true => run_12_1_t _ _))
  · exact Or.inr (Or.inl (match x with | false => run_12_2_f _ _ | true => run_12_2_t _ _))
  · exact Or.inr (Or.inl (match x with | false => run_13_0_f _ _ | true => run_13_0_t _ _))
  · exact Or.inr (Or.inl (match x with | false => run_13_1_f _ _ | true => run_13_1_t _ _))
  · exact Or.inr (Or.inl (match x with | false => run_13_2_f _ _ | true => run_13_2_t _ _))
  · exact Or.inr (Or.inl (match x with | false => run_14_0_f _ _ | true => run_14_0_t _ _))
  · exact Or.inr (Or.inl (match x with | false => run_14_1_f _ _ | true => run_14_1_t _ _))
  · exact Or.inr (Or.inl (match x with | false => run_14_2_f _ _ | true => run_14_2_t _ _))
  · exact Or.inl (run_15_0 _ _)
  · exact Or.inl (run_15_1 _ _)
  · exact Or.inl (run_15_2 _ _)
  · exact Or.inl (run_16_0 _ _)
  · exact Or.inl (run_16_1 _ _)
  · exact Or.inl (run_16_2 _ _)
  · exact Or.inr (Or.inl (match x with | false => run_17_0_f _ _ | true => run_17_0_t _ _))
  · exact Or.inr (Or.inl (match x with | false => run_17_1_f _ _ | true => run_17_1_t _ _))
  · exact Or.inr (Or.inl (match x with | false => run_17_2_f _ _ | true => run_17_2_t _ _))
  · exact Or.inr (Or.inl (match x with | false => run_18_0_f _ _ | true => run_18_0_t _ _))
  · exact Or.inr (Or.inl (match x with | false => run_18_1_f _ _ | true => run_18_1_t _ _))
  · exact Or.inr (Or.inl (match x with | false => run_18_2_f _ _ | true => run_18_2_t _ _))
  · rcases hxy with ⟨rfl, rfl, rfl⟩ | ⟨rfl, rfl, rfl⟩ | ⟨rfl, rfl, rfl⟩ | ⟨rfl, rfl, rfl⟩ | ⟨rfl, rfl, rfl⟩
    · exact Or.inr (Or.inr (run_19_0_ttt _ _))
    · exact Or.inr (Or.inr (run_19_0_tff _ _))
    · exact Or.inr (Or.inr (run_19_0_ftf _ _))
    · exact Or.inr (Or.inr (run_19_0_fft _ _))
    · exact Or.inr (Or.inr (run_19_0_fff _ _))
  · rcases hxy with ⟨rfl, rfl, rfl⟩ | ⟨rfl, rfl, rfl⟩ | ⟨rfl, rfl, rfl⟩ | ⟨rfl, rfl, rfl⟩ | ⟨rfl, rfl, rfl⟩
    · exact Or.inr (Or.inr (run_19_1_ttt _ _))
    · exact Or.inr (Or.inr (run_19_1_tff _ _))
    · exact Or.inr (Or.inr (run_19_1_ftf _ _))
    · exact Or.inr (Or.inr (run_19_1_fft _ _))
    · exact Or.inr (Or.inr (run_19_1_fff _ _))
  · rcases hxy with ⟨rfl, rfl, rfl⟩ | ⟨rfl, rfl, rfl⟩ | ⟨rfl, rfl, rfl⟩ | ⟨rfl, rfl, rfl⟩ | ⟨rfl, rfl, rfl⟩
    · exact Or.inr (Or.inr (run_19_2_ttt _ _))
    · exact Or.inr (Or.inr (run_19_2_tff _ _))
    · exact Or.inr (Or.inr (run_19_2_ftf _ _))
    · exact Or.inr (Or.inr (run_19_2_fft _ _))
    · exact Or.inr (Or.inr (run_19_2_fff _ _))
  · rcases hxy with ⟨rfl, rfl, rfl⟩ | ⟨rfl, rfl, rfl⟩ | ⟨rfl, rfl, rfl⟩ | ⟨rfl, rfl, rfl⟩ | ⟨rfl, rfl, rfl⟩
    · exact Or.inr (Or.inr (run_20_0_ttt _ _))
    · exact Or.inr (Or.inr (run_20_0_tff _ _))
    · exact Or.inr (Or.inr (run_20_0_ftf _ _))
    · exact Or.inr (Or.inr (run_20_0_fft _ _))
    · exact Or.inr (Or.inr (run_20_0_fff _ _))
  · rcases hxy with ⟨rfl, rfl, rfl⟩ | ⟨rfl, rfl, rfl⟩ | ⟨rfl, rfl, rfl⟩ | ⟨rfl, rfl, rfl⟩ | ⟨rfl, rfl, rfl⟩
    · exact Or.inr (Or.inr (run_20_1_ttt _ _))
    · exact Or.inr (Or.inr (run_20_1_tff _ _))
    · exact Or.inr (Or.inr (run_20_1_ftf _ _))
    · exact Or.inr (Or.inr (run_20_1_fft _ _))
    · exact Or.inr (Or.inr (run_20_1_fff _ _))
  · rcases hxy with ⟨rfl, rfl, rfl⟩ | ⟨rfl, rfl, rfl⟩ | ⟨rfl, rfl, rfl⟩ | ⟨rfl, rfl, rfl⟩ | ⟨rfl, rfl, rfl⟩
    · exact Or.inr (Or.inr (run_20_2_ttt _ _))
    · exact Or.inr (Or.inr (run_20_2_tff _ _))
    · exact Or.inr (Or.inr (run_20_2_ftf _ _))
    · exact Or.inr (Or.inr (run_20_2_fft _ _))
    · exact Or.inr (Or.inr (run_20_2_fff _ _))
  · rcases hxy with ⟨rfl, rfl, rfl⟩ | ⟨rfl, rfl, rfl⟩ | ⟨rfl, rfl, rfl⟩ | ⟨rfl, rfl, rfl⟩ | ⟨rfl, rfl, rfl⟩
    · exact Or.inr (Or.inr (run_21_0_ttt _ _))
    · exact Or.inr (Or.inr (run_21_0_tff _ _))
    · exact Or.inr (Or.inr (run_21_0_ftf _ _))
    · exact Or.inr (Or.inr (run_21_0_fft _ _))
    · exact Or.inr (Or.inr (run_21_0_fff _ _))
  · rcases hxy with ⟨rfl, rfl, rfl⟩ | ⟨rfl, rfl, rfl⟩ | ⟨rfl, rfl, rfl⟩ | ⟨rfl, rfl, rfl⟩ | ⟨rfl, rfl, rfl⟩
    · exact Or.inr (Or.inr (run_21_1_ttt _ _))
    · exact Or.inr (Or.inr (run_21_1_tff _ _))
    · exact Or.inr (Or.inr (run_21_1_ftf _ _))
    · exact Or.inr (Or.inr (run_21_1_fft _ _))
    · exact Or.inr (Or.inr (run_21_1_fff _ _))
  · rcases hxy with ⟨rfl, rfl, rfl⟩ | ⟨rfl, rfl, rfl⟩ | ⟨rfl, rfl, rfl⟩ | ⟨rfl, rfl, rfl⟩ | ⟨rfl, rfl, rfl⟩
    · exact Or.inr (Or.inr (run_21_2_ttt _ _))
    · exact Or.inr (Or.inr (run_21_2_tff _ _))
    · exact Or.inr (Or.inr (run_21_2_ftf _ _))
    · exact Or.inr (Or.inr (run_21_2_fft _ _))
    · exact Or.inr (Or.inr (run_21_2_fff _ _))
  · rcases hxy with ⟨rfl, rfl, rfl⟩ | ⟨rfl, rfl, rfl⟩ | ⟨rfl, rfl, rfl⟩ | ⟨rfl, rfl, rfl⟩ | ⟨rfl, rfl, rfl⟩
    · exact Or.inr (Or.inr (run_22_0_ttt _ _))
    · exact Or.inr (Or.inr (run_22_0_tff _ _))
    · exact Or.inr (Or.inr (run_22_0_ftf _ _))
    · exact Or.inr (Or.inr (run_22_0_fft _ _))
    · exact Or.inr (Or.inr (run_22_0_fff _ _))
  · rcases hxy with ⟨rfl, rfl, rfl⟩ | ⟨rfl, rfl, rfl⟩ | ⟨rfl, rfl, rfl⟩ | ⟨rfl, rfl, rfl⟩ | ⟨rfl, rfl, rfl⟩
    · exact Or.inr (Or.inr (run_22_1_ttt _ _))
    · exact Or.inr (Or.inr (run_22_1_tff _ _))
    · exact Or.inr (Or.inr (run_22_1_ftf _ _))
    · exact Or.inr (Or.inr (run_22_1_fft _ _))
    · exact Or.inr (Or.inr (run_22_1_fff _ _))
  · rcases hxy with ⟨rfl, rfl, rfl⟩ | ⟨rfl, rfl, rfl⟩ | ⟨rfl, rfl, rfl⟩ | ⟨rfl, rfl, rfl⟩ | ⟨rfl, rfl, rfl⟩
    · exact Or.inr (Or.inr (run_22_2_ttt _ _))
    · exact Or.inr (Or.inr (run_22_2_tff _ _))
    · exact Or.inr (Or.inr (run_22_2_ftf _ _))
    · exact Or.inr (Or.inr (run_22_2_fft _ _))
    · exact Or.inr (Or.inr (run_22_2_fff _ _))
  · rcases hxy with ⟨rfl, rfl, rfl⟩ | ⟨rfl, rfl, rfl⟩ | ⟨rfl, rfl, rfl⟩ | ⟨rfl, rfl, rfl⟩ | ⟨rfl, rfl, rfl⟩
    · exact Or.inr (Or.inr (run_23_0_ttt _ _))
    · exact Or.inr (Or.inr (run_23_0_tff _ _))
    · exact Or.inr (Or.inr (run_23_0_ftf _ _))
    · exact Or.inr (Or.inr (run_23_0_fft _ _))
    · exact Or.inr (Or.inr (run_23_0_fff _ _))
  · rcases hxy with ⟨rfl, rfl, rfl⟩ | ⟨rfl, rfl, rfl⟩ | ⟨rfl, rfl, rfl⟩ | ⟨rfl, rfl, rfl⟩ | ⟨rfl, rfl, rfl⟩
    · exact Or.inr (Or.inr (run_23_1_ttt _ _))
    · exact Or.inr (Or.inr (run_23_1_tff _ _))
    · exact Or.inr (Or.inr (run_23_1_ftf _ _))
    · exact Or.inr (Or.inr (run_23_1_fft _ _))
    · exact Or.inr (Or.inr (run_23_1_fff _ _))
  · rcases hxy with ⟨rfl, rfl, rfl⟩ | ⟨rfl, rfl, rfl⟩ | ⟨rfl, rfl, rfl⟩ | ⟨rfl, rfl, rfl⟩ | ⟨rfl, rfl, rfl⟩
    · exact Or.inr (Or.inr (run_23_2_ttt _ _))
    · exact Or.inr (Or.inr (run_23_2_tff _ _))
    · exact Or.inr (Or.inr (run_23_2_ftf _ _))
    · exact Or.inr (Or.inr (run_23_2_fft _ _))
    · exact Or.inr (Or.inr (run_23_2_fff _ _))
  · exact Or.inl (run_24_0 _ _)
  · exact Or.inl (run_24_1 _ _)
  · exact Or.inl (run_24_2 _ _)
  · exact Or.inl (run_25_0 _ _)
  · exact Or.inl (run_25_1 _ _)
  · exact Or.inl (run_25_2 _ _)
  · exact Or.inl (run_26_0 _ _)
  · exact Or.inl (run_26_1 _ _)
  · exact Or.inl (run_26_2 _ _)
  · exact Or.inl (run_27_0 _ _)
  · exact Or.inl (run_27_1 _ _)
  · exact Or.inl (run_27_2 _ _)
theorem walk (a0 a1 a2 a3 a4 a5 a6 : Int) (nm : ByteArray) (w0 : (Lit.int .i64 a0).wf = true) (w1 : (Lit.int .i64 a1).wf = true) (w2 : (Lit.int .i64 a2).wf = true) (w3 : (Lit.int .i64 a3).wf = true) (w4 : (Lit.int .i64 a4).wf = true) (w5 : (Lit.int .i64 a5).wf = true) (w6 : (Lit.int .i64 a6).wf = true) (W : World) (hL : laidMetH Tryd.prog Rows.instrRegistersRow.laid W) :
    Calls Tryd.prog 6 #[.agg #[.int .i64 a0, .int .i64 a1, .int .i64 a2, .int .i64 a3, .int .i64 a4, .string nm], .int .i64 a5, .int .i64 a6] W fun e W' => e = .returned (.bool true) ∧ Below W.heap.size W W' := by
  have b0 := bnd64 w0
  have b1 := bnd64 w1
  have b2 := bnd64 w2
  have b3 := bnd64 w3
  have b4 := bnd64 w4
  have b5 := bnd64 w5
  have b6 := bnd64 w6
  obtain ⟨p0, p1⟩ := pickN_lt a0 (n := 28) (by decide)
  obtain ⟨q0, q1⟩ := pickN_lt a5 (n := 3) (by decide)
  obtain ⟨d0, d1⟩ := pickN_lt a1 (n := 32) (by decide)
  obtain ⟨e0, e1⟩ := pickN_lt a2 (n := 32) (by decide)
  obtain ⟨f0, f1⟩ := pickN_lt a3 (n := 32) (by decide)
  obtain ⟨c0, c1⟩ := pickN_lt a4 (n := 4095) (by decide)
  obtain ⟨n0, n1⟩ := pickN_lt a6 (n := 1000) (by decide)
  generalize hp : pickN a0 28 = p at p0 p1
  generalize hq : pickN a5 3 = q at q0 q1
  generalize hd : pickN a1 32 = d at d0 d1
  generalize ha : pickN a2 32 = a at e0 e1
  generalize hb : pickN a3 32 = b at f0 f1
  generalize hc : pickN a4 4095 = c at c0 c1
  generalize hn : pickN a6 1000 = n at n0 n1
  have fin : ∀ F : List Fact, FactsOk F (fun j => match j with | 0 => a0 | 1 => a1 | 2 => a2 | 3 => a3 | 4 => a4 | 5 => a5 | 6 => a6 | 10 => d | 11 => a | 12 => b | 13 => c | _ => n) → run p q F W.heap.size (fun k => W.heap[k]?) = true → Calls Tryd.prog 6 #[.agg #[.int .i64 a0, .int .i64 a1, .int .i64 a2, .int .i64 a3, .int .i64 a4, .string nm], .int .i64 a5, .int .i64 a6] W fun e W' => e = .returned (.bool true) ∧ Below W.heap.size W W' :=
    fun F hF hrun => true_at (cx_ok p q F hL) 3000 (vs := vsA W.heap.size fun k => W.heap[k]?) (vsA_lt _ _) (Nat.le_refl _) hrun (I := (fun j => match j with | 0 => a0 | 1 => a1 | 2 => a2 | 3 => a3 | 4 => a4 | 5 => a5 | 6 => a6 | 10 => d | 11 => a | 12 => b | 13 => c | _ => n)) W (Q := fun i => if i = 999 then .string nm else nameOf a4)
      ⟨hF, rfl, b0, hp, b1, hd, b2, ha, b3, hb, b4, hc, b6, hn, b5, hq⟩ rfl (laid_at hL _ _) (Nat.le_refl _) (fun _ _ => rfl)
  have hu : FactsOk fu (fun j => match j with | 0 => a0 | 1 => a1 | 2 => a2 | 3 => a3 | 4 => a4 | 5 => a5 | 6 => a6 | 10 => d | 11 => a | 12 => b | 13 => c | _ => n) := fu_ok d0 d1 e0 e1 f0 f1 c0 c1 n0 n1
  have hA : FactsOk (fa (decide (a = 0))) (fun j => match j with | 0 => a0 | 1 => a1 | 2 => a2 | 3 => a3 | 4 => a4 | 5 => a5 | 6 => a6 | 10 => d | 11 => a | 12 => b | 13 => c | _ => n) := fa_ok e0 _ rfl
  have hB : FactsOk (fb (decide (b = 0))) (fun j => match j with | 0 => a0 | 1 => a1 | 2 => a2 | 3 => a3 | 4 => a4 | 5 => a5 | 6 => a6 | 10 => d | 11 => a | 12 => b | 13 => c | _ => n) := fb_ok f0 _ rfl
  have hE : FactsOk (fe (decide (b = a))) (fun j => match j with | 0 => a0 | 1 => a1 | 2 => a2 | 3 => a3 | 4 => a4 | 5 => a5 | 6 => a6 | 10 => d | 11 => a | 12 => b | 13 => c | _ => n) := fe_ok _ rfl
  have hxy : (decide (a = 0), decide (b = 0), decide (b = a)) ∈ [(true, true, true), (true, false, false), (false, true, false), (false, false, true), (false, false, false)] := by
    cases h1 : decide (a = 0) <;> cases h2 : decide (b = 0) <;> cases h3 : decide (b = a) <;> first
      | decide
      | (exfalso; simp only [decide_eq_true_eq, decide_eq_false_iff_not] at h1 h2 h3; omega)
  rcases runs p q p0 p1 q0 q1 _ _ _ hxy W.heap.size (fun k => W.heap[k]?) with h | h | h
  · exact fin _ hu h
  · exact fin _ (facts_app hu hA) h
  · exact fin _ (facts_app hu (facts_app hA (facts_app hB hE))) h
end Go.Proofs.YtmkjjmebpbbhlaaDoor.InstrRegisters
