/-
  Layer 11: what was stored at place 7.
-/
import Derived.Test.YtknpoojkjmgihaaArr
namespace Go.Proofs.Ytknpoojkjmgihaa
set_option maxRecDepth 1000000
theorem arr_run_7_0 : arrRun 7 0 = true := by kernel_rfl
theorem arr_run_7_1 : arrRun 7 1 = true := by kernel_rfl
theorem arr_run_7_2 : arrRun 7 2 = true := by kernel_rfl
theorem arr_run_7_3 : arrRun 7 3 = true := by kernel_rfl
theorem arr_run_7_4 : arrRun 7 4 = true := by kernel_rfl
theorem arr_run_7_5 : arrRun 7 5 = true := by kernel_rfl
theorem arr_run_7_6 : arrRun 7 6 = true := by kernel_rfl
theorem arr_run_7_7 : arrRun 7 7 = true := by kernel_rfl
theorem arr_run_7_8 : arrRun 7 8 = true := by kernel_rfl
theorem arr_run_7_9 : arrRun 7 9 = true := by kernel_rfl
theorem arr_runs_7 {k : Int} (h0 : 0 ≤ k) (h1 : k < 10) : arrRun 7 k = true := by
  have h : k = 0 ∨ k = 1 ∨ k = 2 ∨ k = 3 ∨ k = 4 ∨ k = 5 ∨ k = 6 ∨ k = 7 ∨ k = 8 ∨ k = 9 := by omega
  rcases h with rfl | rfl | rfl | rfl | rfl | rfl | rfl | rfl | rfl | rfl
  · exact arr_run_7_0
  · exact arr_run_7_1
  · exact arr_run_7_2
  · exact arr_run_7_3
  · exact arr_run_7_4
  · exact arr_run_7_5
  · exact arr_run_7_6
  · exact arr_run_7_7
  · exact arr_run_7_8
  · exact arr_run_7_9
end Go.Proofs.Ytknpoojkjmgihaa
