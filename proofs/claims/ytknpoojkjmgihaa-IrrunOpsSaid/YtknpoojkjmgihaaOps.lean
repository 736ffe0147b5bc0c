/-
  Layer 11: an instruction of one number, or of two, makes what the operator makes.
-/
import Derived.Test.YtknpoojkjmgihaaXu
import Derived.Test.YtknpoojkjmgihaaXs
import Derived.Test.YtknpoojkjmgihaaArithAll
namespace Go.Proofs.Ytknpoojkjmgihaa
open Go.Xq Go.RowKit
set_option maxRecDepth 1000000

def kOps (k : Int) (is : Bool) (I : Nat → Int) : Prop :=
  (-9223372036854775808 ≤ I 0 ∧ I 0 ≤ 9223372036854775807) ∧ pickN (I 0) 19 = k ∧ ((k < 16 ∧ I 3 = twoN (k + 1) (I 1) (I 2) ∧ twoB (k + 1) (I 2) = is) ∨ (16 ≤ k ∧ I 3 = oneN (k + 1) (I 1) ∧ oneB (k + 1) = is))

def hOps (k : Int) (is : Bool) : List Hook :=
  [⟨8, [], .bool true⟩,
   ⟨10, [.int .i64 (.var 0), .int .i64 (.lit 19)], .int .i64 (.lit k)⟩] ++
  (if k < 16 then [⟨15, [.int .i64 (.lit (k + 1)), .int .i64 (.var 1), .int .i64 (.var 2)], .tuple [.int .i64 (.var 3), .bool is]⟩]
   else [⟨16, [.int .i64 (.lit (k + 1)), .int .i64 (.var 1)], .tuple [.int .i64 (.var 3), .bool is]⟩,
     ⟨15, [.int .i64 (.lit (k + 1)), .int .i64 (.var 1), .int .i64 (.var 2)], .tuple [.int .i64 (.lit 0), .bool false]⟩])

noncomputable def cxOps (k : Int) (is : Bool) : Cx := cxOf Try.prog.funcs Try.prog.types [] (hOps k is) (kOps k is)

theorem cxOps_ok (k : Int) (is : Bool) (h0 : 0 ≤ k) (h1 : k < 19) : (cxOps k is).Ok Try.prog := by
  refine cxOf_ok cx_names cx_mixed ?_
  intro hk hm E xs hK ha
  obtain ⟨r0, hp, h3⟩ := hK
  simp only [hOps, List.mem_append, List.mem_cons, List.not_mem_nil, or_false] at hm
  rcases hm with (rfl | rfl) | hm
  · have hx : xs = [] := by simpa [denL, eq_comm] using ha
    subst hx
    exact ⟨.bool true, rfl, fun w => awake_ok w⟩
  · have hx : xs = [.int .i64 (E.ints 0), .int .i64 19] := by simpa [denL, SV.den, SI.den, eq_comm] using ha
    subst hx
    refine ⟨.int .i64 k, rfl, fun w => Calls.stay ?_⟩
    have := pick_any (E.ints 0) 19 r0 (by decide) w
    rw [hp] at this
    exact this
  · split at hm
    · rename_i hlt
      simp only [List.mem_cons, List.not_mem_nil, or_false] at hm
      subst hm
      rcases h3 with ⟨_, h3, h4⟩ | ⟨h, _⟩
      · have hx : xs = [.int .i64 (k + 1), .int .i64 (E.ints 1), .int .i64 (E.ints 2)] := by simpa [denL, SV.den, SI.den, eq_comm] using ha
        subst hx
        refine ⟨.tuple #[.int .i64 (E.ints 3), .bool is], rfl, fun w => ?_⟩
        have := two_all (k + 1) (E.ints 1) (E.ints 2) w
        rw [← h3, h4] at this
        exact this
      · omega
    · rename_i hge
      simp only [List.mem_cons, List.not_mem_nil, or_false] at hm
      rcases h3 with ⟨h, _⟩ | ⟨_, h3, h4⟩
      · omega
      rcases hm with rfl | rfl
      · have hx : xs = [.int .i64 (k + 1), .int .i64 (E.ints 1)] := by simpa [denL, SV.den, SI.den, eq_comm] using ha
        subst hx
        refine ⟨.tuple #[.int .i64 (E.ints 3), .bool is], rfl, fun w => ?_⟩
        have := one_all (k + 1) (E.ints 1) w
        rw [← h3, h4] at this
        exact this
      · have hx : xs = [.int .i64 (k + 1), .int .i64 (E.ints 1), .int .i64 (E.ints 2)] := by simpa [denL, SV.den, SI.den, eq_comm] using ha
        subst hx
        refine ⟨.tuple #[.int .i64 0, .bool false], rfl, fun w => ?_⟩
        have := two_all (k + 1) (E.ints 1) (E.ints 2) w
        have e1 : twoN (k + 1) (E.ints 1) (E.ints 2) = 0 := by
          have : k = 16 ∨ k = 17 ∨ k = 18 := by omega
          rcases this with rfl | rfl | rfl <;> rfl
        have e2 : twoB (k + 1) (E.ints 2) = false := by
          have : k = 16 ∨ k = 17 ∨ k = 18 := by omega
          rcases this with rfl | rfl | rfl <;> rfl
        rw [e1, e2] at this
        exact this

noncomputable def opsRun (k : Int) (is : Bool) : Bool :=
  isTrueX (callX (cxOps k is) (codeX (cxOps k is) 3000) 6 [.int .i64 (.var 0), .int .i64 (.var 1), .int .i64 (.var 2)] .nil 0)

def opsCases : List (Int × Bool) := [(3, false), (4, false), (0, true), (1, true), (2, true), (3, true), (4, true), (5, true), (6, true), (7, true), (8, true), (9, true), (10, true), (11, true), (12, true), (13, true), (14, true), (15, true), (16, true), (17, true), (18, true)]

theorem ops_run_3_false : opsRun 3 false = true := by kernel_rfl
theorem ops_run_4_false : opsRun 4 false = true := by kernel_rfl
theorem ops_run_0_true : opsRun 0 true = true := by kernel_rfl
theorem ops_run_1_true : opsRun 1 true = true := by kernel_rfl
theorem ops_run_2_true : opsRun 2 true = true := by kernel_rfl
theorem ops_run_3_true : opsRun 3 true = true := by kernel_rfl
theorem ops_run_4_true : opsRun 4 true = true := by kernel_rfl
theorem ops_run_5_true : opsRun 5 true = true := by kernel_rfl
theorem ops_run_6_true : opsRun 6 true = true := by kernel_rfl
theorem ops_run_7_true : opsRun 7 true = true := by kernel_rfl
theorem ops_run_8_true : opsRun 8 true = true := by kernel_rfl
theorem ops_run_9_true : opsRun 9 true = true := by kernel_rfl
theorem ops_run_10_true : opsRun 10 true = true := by kernel_rfl
theorem ops_run_11_true : opsRun 11 true = true := by kernel_rfl
theorem ops_run_12_true : opsRun 12 true = true := by kernel_rfl
theorem ops_run_13_true : opsRun 13 true = true := by kernel_rfl
theorem ops_run_14_true : opsRun 14 true = true := by kernel_rfl
theorem ops_run_15_true : opsRun 15 true = true := by kernel_rfl
theorem ops_run_16_true : opsRun 16 true = true := by kernel_rfl
theorem ops_run_17_true : opsRun 17 true = true := by kernel_rfl
theorem ops_run_18_true : opsRun 18 true = true := by kernel_rfl

theorem ops_runs : ∀ p ∈ opsCases, opsRun p.1 p.2 = true := by
  intro p hp
  simp only [opsCases, List.mem_cons, List.not_mem_nil, or_false] at hp
  rcases hp with rfl | rfl | rfl | rfl | rfl | rfl | rfl | rfl | rfl | rfl | rfl | rfl | rfl | rfl | rfl | rfl | rfl | rfl | rfl | rfl | rfl
  · exact ops_run_3_false
  · exact ops_run_4_false
  · exact ops_run_0_true
  · exact ops_run_1_true
  · exact ops_run_2_true
  · exact ops_run_3_true
  · exact ops_run_4_true
  · exact ops_run_5_true
  · exact ops_run_6_true
  · exact ops_run_7_true
  · exact ops_run_8_true
  · exact ops_run_9_true
  · exact ops_run_10_true
  · exact ops_run_11_true
  · exact ops_run_12_true
  · exact ops_run_13_true
  · exact ops_run_14_true
  · exact ops_run_15_true
  · exact ops_run_16_true
  · exact ops_run_17_true
  · exact ops_run_18_true

theorem ops_walk (a0 a1 a2 : Int) (w0 : (Lit.int .i64 a0).wf = true) (w1 : (Lit.int .i64 a1).wf = true) (w2 : (Lit.int .i64 a2).wf = true) (W : World) :
    Calls Try.prog 6 #[.int .i64 a0, .int .i64 a1, .int .i64 a2] W fun e W' => e = .returned (.bool true) ∧ Below W.heap.size W W' := by
  have hr := bnd64 w0
  obtain ⟨h0, h1⟩ := pickN_lt a0 (n := 19) (by decide)
  generalize hk : pickN a0 19 = k at h0 h1
  obtain ⟨is, v, hmem, hK⟩ : ∃ (is : Bool) (v : Int), (k, is) ∈ opsCases ∧ ((k < 16 ∧ v = twoN (k + 1) a1 a2 ∧ twoB (k + 1) a2 = is) ∨ (16 ≤ k ∧ v = oneN (k + 1) a1 ∧ oneB (k + 1) = is)) := by
    by_cases hlt : k < 16
    · refine ⟨twoB (k + 1) a2, twoN (k + 1) a1 a2, ?_, Or.inl ⟨hlt, rfl, rfl⟩⟩
      have hcase : k = 0 ∨ k = 1 ∨ k = 2 ∨ k = 3 ∨ k = 4 ∨ k = 5 ∨ k = 6 ∨ k = 7 ∨ k = 8 ∨ k = 9 ∨ k = 10 ∨ k = 11 ∨ k = 12 ∨ k = 13 ∨ k = 14 ∨ k = 15 := by omega
      by_cases hz : a2 = 0 <;> rcases hcase with rfl | rfl | rfl | rfl | rfl | rfl | rfl | rfl | rfl | rfl | rfl | rfl | rfl | rfl | rfl | rfl <;> simp [twoB, hz, opsCases]
    · refine ⟨oneB (k + 1), oneN (k + 1) a1, ?_, Or.inr ⟨by omega, rfl, rfl⟩⟩
      have hcase : k = 16 ∨ k = 17 ∨ k = 18 := by omega
      rcases hcase with rfl | rfl | rfl <;> simp [oneB, opsCases]
  have hrun := ops_runs (k, is) hmem
  exact true_ok (cxOps_ok k is h0 h1) rfl 3000 hrun (I := fun i => match i with | 0 => a0 | 1 => a1 | 2 => a2 | _ => v) ⟨(fun _ h => nomatch h), hr, hk, hK⟩ rfl W
end Go.Proofs.Ytknpoojkjmgihaa
