/-
  Layer 11: what was stored at place 5.
-/
import Derived.Test.YtknpoojkjmgihaaArr
namespace Go.Proofs.Ytknpoojkjmgihaa
set_option maxRecDepth 1000000
theorem arr_run_5_0 : arrRun 5 0 = true := by kernel_rfl
theorem arr_run_5_1 : arrRun 5 1 = true := by kernel_rfl
theorem arr_run_5_2 : arrRun 5 2 = true := by kernel_rfl
theorem arr_run_5_3 : arrRun 5 3 = true := by kernel_rfl
theorem arr_run_5_4 : arrRun 5 4 = true := by kernel_rfl
theorem arr_run_5_5 : arrRun 5 5 = true := by kernel_rfl
theorem arr_run_5_6 : arrRun 5 6 = true := by kernel_rfl
theorem arr_run_5_7 : arrRun 5 7 = true := by kernel_rfl
theorem arr_run_5_8 : arrRun 5 8 = true := by kernel_rfl
theorem arr_run_5_9 : arrRun 5 9 = true := by kernel_rfl
theorem arr_runs_5 {k : Int} (h0 : 0 ≤ k) (h1 : k < 10) : arrRun 5 k = true := by
  have h : k = 0 ∨ k = 1 ∨ k = 2 ∨ k = 3 ∨ k = 4 ∨ k = 5 ∨ k = 6 ∨ k = 7 ∨ k = 8 ∨ k = 9 := by omega
  rcases h with rfl | rfl | rfl | rfl | rfl | rfl | rfl | rfl | rfl | rfl
  · exact arr_run_5_0
  · exact arr_run_5_1
  · exact arr_run_5_2
  · exact arr_run_5_3
  · exact arr_run_5_4
  · exact arr_run_5_5
  · exact arr_run_5_6
  · exact arr_run_5_7
  · exact arr_run_5_8
  · exact arr_run_5_9
end Go.Proofs.Ytknpoojkjmgihaa
