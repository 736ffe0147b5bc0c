/-
  Layer 11: what was stored is loaded: every place.
-/
import Derived.Test.YtknpoojkjmgihaaArr2
import Derived.Test.YtknpoojkjmgihaaArr3
import Derived.Test.YtknpoojkjmgihaaArr4
import Derived.Test.YtknpoojkjmgihaaArr5
import Derived.Test.YtknpoojkjmgihaaArr6
import Derived.Test.YtknpoojkjmgihaaArr7
import Derived.Test.YtknpoojkjmgihaaArr8
import Derived.Test.YtknpoojkjmgihaaArr9
import Derived.Test.YtknpoojkjmgihaaArr10
import Derived.Test.YtknpoojkjmgihaaArr11
namespace Go.Proofs.Ytknpoojkjmgihaa
open Go.Xq Go.RowKit
set_option maxRecDepth 1000000

/-- The place is none of the array's: what is loaded then does not matter. -/
def kFar (i : Int) (I : Nat → Int) : Prop :=
  (-9223372036854775808 ≤ I 0 ∧ I 0 ≤ 9223372036854775807) ∧ (-9223372036854775808 ≤ I 1 ∧ I 1 ≤ 9223372036854775807) ∧ pickN (I 0) 14 = i ∧ pickN (I 1) 10 = I 3

def hFar (i : Int) : List Hook :=
  [⟨8, [], .bool true⟩,
   ⟨10, [.int .i64 (.var 0), .int .i64 (.lit 14)], .int .i64 (.lit i)⟩,
   ⟨10, [.int .i64 (.var 1), .int .i64 (.lit 10)], .int .i64 (.var 3)⟩]

noncomputable def cxFar (i : Int) : Cx := cxOf Try.prog.funcs Try.prog.types [] 0 0 [] (hFar i) (kFar i)

theorem cxFar_ok (i : Int) : (cxFar i).Ok Try.prog := by
  refine cxOf_ok (exts := []) cx_names cx_mixed (fun _ h => nomatch h) ?_
  intro hk hm E xs hK ha
  obtain ⟨r0, r1, hi, hj⟩ := hK
  simp only [hFar, List.mem_cons, List.not_mem_nil, or_false] at hm
  rcases hm with rfl | rfl | rfl
  · have hx : xs = [] := by simpa [denL, eq_comm] using ha
    subst hx
    exact ⟨.bool true, rfl, fun w => awake_ok w⟩
  · have hx : xs = [.int .i64 (E.ints 0), .int .i64 14] := by simpa [denL, SV.den, SI.den, eq_comm] using ha
    subst hx
    refine ⟨.int .i64 i, rfl, fun w => Calls.stay ?_⟩
    have := pick_any (E.ints 0) 14 r0 (by decide) w
    rw [hi] at this
    exact this
  · have hx : xs = [.int .i64 (E.ints 1), .int .i64 10] := by simpa [denL, SV.den, SI.den, eq_comm] using ha
    subst hx
    refine ⟨.int .i64 (E.ints 3), rfl, fun w => Calls.stay ?_⟩
    have := pick_any (E.ints 1) 10 r1 (by decide) w
    rw [hj] at this
    exact this

noncomputable def farRun (i : Int) : Bool :=
  isTrueX (callX (cxFar i) (codeX (cxFar i) 3000) 7 [.int .i64 (.var 0), .int .i64 (.var 1), .int .i64 (.var 2)] .nil 0)
theorem far_run_0 : farRun 0 = true := by kernel_rfl
theorem far_run_1 : farRun 1 = true := by kernel_rfl
theorem far_run_12 : farRun 12 = true := by kernel_rfl
theorem far_run_13 : farRun 13 = true := by kernel_rfl

theorem arrays_walk (a0 a1 a2 : Int) (w0 : (Lit.int .i64 a0).wf = true) (w1 : (Lit.int .i64 a1).wf = true) (_w2 : (Lit.int .i64 a2).wf = true) (W : World) :
    Calls Try.prog 7 #[.int .i64 a0, .int .i64 a1, .int .i64 a2] W fun e W' => e = .returned (.bool true) ∧ Below W.heap.size W W' := by
  have hr := bnd64 w0
  have hs := bnd64 w1
  obtain ⟨h0, h1⟩ := pickN_lt a0 (n := 14) (by decide)
  obtain ⟨k0, k1⟩ := pickN_lt a1 (n := 10) (by decide)
  generalize hi : pickN a0 14 = p at h0 h1
  generalize hk : pickN a1 10 = k at k0 k1
  have near : arrRun p k = true → Calls Try.prog 7 #[.int .i64 a0, .int .i64 a1, .int .i64 a2] W fun e W' => e = .returned (.bool true) ∧ Below W.heap.size W W' := fun hrun =>
    true_ok (cxArr_ok p k) rfl rfl 3000 hrun (I := fun j => match j with | 0 => a0 | 1 => a1 | 2 => a2 | _ => 0) ⟨(fun _ h => nomatch h), hr, hs, hi, hk⟩ rfl W
  have far : farRun p = true → Calls Try.prog 7 #[.int .i64 a0, .int .i64 a1, .int .i64 a2] W fun e W' => e = .returned (.bool true) ∧ Below W.heap.size W W' := fun hrun =>
    true_ok (cxFar_ok p) rfl rfl 3000 hrun (I := fun j => match j with | 0 => a0 | 1 => a1 | 2 => a2 | _ => k) ⟨(fun _ h => nomatch h), hr, hs, hi, hk⟩ rfl W
  have hp : p = 0 ∨ p = 1 ∨ p = 2 ∨ p = 3 ∨ p = 4 ∨ p = 5 ∨ p = 6 ∨ p = 7 ∨ p = 8 ∨ p = 9 ∨ p = 10 ∨ p = 11 ∨ p = 12 ∨ p = 13 := by omega
  clear hi hk
  rcases hp with rfl | rfl | rfl | rfl | rfl | rfl | rfl | rfl | rfl | rfl | rfl | rfl | rfl | rfl
  · exact far far_run_0
  · exact far far_run_1
  · exact near (arr_runs_2 k0 k1)
  · exact near (arr_runs_3 k0 k1)
  · exact near (arr_runs_4 k0 k1)
  · exact near (arr_runs_5 k0 k1)
  · exact near (arr_runs_6 k0 k1)
  · exact near (arr_runs_7 k0 k1)
  · exact near (arr_runs_8 k0 k1)
  · exact near (arr_runs_9 k0 k1)
  · exact near (arr_runs_10 k0 k1)
  · exact near (arr_runs_11 k0 k1)
  · exact far far_run_12
  · exact far far_run_13
end Go.Proofs.Ytknpoojkjmgihaa
