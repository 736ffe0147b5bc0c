/-
  Layer 11: what was stored at place 3.
-/
import Derived.Test.YtknpoojkjmgihaaArr
namespace Go.Proofs.Ytknpoojkjmgihaa
set_option maxRecDepth 1000000
theorem arr_run_3_0 : arrRun 3 0 = true := by kernel_rfl
theorem arr_run_3_1 : arrRun 3 1 = true := by kernel_rfl
theorem arr_run_3_2 : arrRun 3 2 = true := by kernel_rfl
theorem arr_run_3_3 : arrRun 3 3 = true := by kernel_rfl
theorem arr_run_3_4 : arrRun 3 4 = true := by kernel_rfl
theorem arr_run_3_5 : arrRun 3 5 = true := by kernel_rfl
theorem arr_run_3_6 : arrRun 3 6 = true := by kernel_rfl
theorem arr_run_3_7 : arrRun 3 7 = true := by kernel_rfl
theorem arr_run_3_8 : arrRun 3 8 = true := by kernel_rfl
theorem arr_run_3_9 : arrRun 3 9 = true := by kernel_rfl
theorem arr_runs_3 {k : Int} (h0 : 0 ≤ k) (h1 : k < 10) : arrRun 3 k = true := by
  have h : k = 0 ∨ k = 1 ∨ k = 2 ∨ k = 3 ∨ k = 4 ∨ k = 5 ∨ k = 6 ∨ k = 7 ∨ k = 8 ∨ k = 9 := by omega
  rcases h with rfl | rfl | rfl | rfl | rfl | rfl | rfl | rfl | rfl | rfl
  · exact arr_run_3_0
  · exact arr_run_3_1
  · exact arr_run_3_2
  · exact arr_run_3_3
  · exact arr_run_3_4
  · exact arr_run_3_5
  · exact arr_run_3_6
  · exact arr_run_3_7
  · exact arr_run_3_8
  · exact arr_run_3_9
end Go.Proofs.Ytknpoojkjmgihaa
