/-
  Layer 11: what was stored at place 2.
-/
import Derived.Test.YtknpoojkjmgihaaArr
namespace Go.Proofs.Ytknpoojkjmgihaa
set_option maxRecDepth 1000000
theorem arr_run_2_0 : arrRun 2 0 = true := by kernel_rfl
theorem arr_run_2_1 : arrRun 2 1 = true := by kernel_rfl
theorem arr_run_2_2 : arrRun 2 2 = true := by kernel_rfl
theorem arr_run_2_3 : arrRun 2 3 = true := by kernel_rfl
theorem arr_run_2_4 : arrRun 2 4 = true := by kernel_rfl
theorem arr_run_2_5 : arrRun 2 5 = true := by kernel_rfl
theorem arr_run_2_6 : arrRun 2 6 = true := by kernel_rfl
theorem arr_run_2_7 : arrRun 2 7 = true := by kernel_rfl
theorem arr_run_2_8 : arrRun 2 8 = true := by kernel_rfl
theorem arr_run_2_9 : arrRun 2 9 = true := by kernel_rfl
theorem arr_runs_2 {k : Int} (h0 : 0 ≤ k) (h1 : k < 10) : arrRun 2 k = true := by
  have h : k = 0 ∨ k = 1 ∨ k = 2 ∨ k = 3 ∨ k = 4 ∨ k = 5 ∨ k = 6 ∨ k = 7 ∨ k = 8 ∨ k = 9 := by omega
  rcases h with rfl | rfl | rfl | rfl | rfl | rfl | rfl | rfl | rfl | rfl
  · exact arr_run_2_0
  · exact arr_run_2_1
  · exact arr_run_2_2
  · exact arr_run_2_3
  · exact arr_run_2_4
  · exact arr_run_2_5
  · exact arr_run_2_6
  · exact arr_run_2_7
  · exact arr_run_2_8
  · exact arr_run_2_9
end Go.Proofs.Ytknpoojkjmgihaa
