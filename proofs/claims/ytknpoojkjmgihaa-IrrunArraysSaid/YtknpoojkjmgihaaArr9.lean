/-
  Layer 11: what was stored at place 9.
-/
import Derived.Test.YtknpoojkjmgihaaArr
namespace Go.Proofs.Ytknpoojkjmgihaa
set_option maxRecDepth 1000000
theorem arr_run_9_0 : arrRun 9 0 = true := by kernel_rfl
theorem arr_run_9_1 : arrRun 9 1 = true := by kernel_rfl
theorem arr_run_9_2 : arrRun 9 2 = true := by kernel_rfl
theorem arr_run_9_3 : arrRun 9 3 = true := by kernel_rfl
theorem arr_run_9_4 : arrRun 9 4 = true := by kernel_rfl
theorem arr_run_9_5 : arrRun 9 5 = true := by kernel_rfl
theorem arr_run_9_6 : arrRun 9 6 = true := by kernel_rfl
theorem arr_run_9_7 : arrRun 9 7 = true := by kernel_rfl
theorem arr_run_9_8 : arrRun 9 8 = true := by kernel_rfl
theorem arr_run_9_9 : arrRun 9 9 = true := by kernel_rfl
theorem arr_runs_9 {k : Int} (h0 : 0 ≤ k) (h1 : k < 10) : arrRun 9 k = true := by
  have h : k = 0 ∨ k = 1 ∨ k = 2 ∨ k = 3 ∨ k = 4 ∨ k = 5 ∨ k = 6 ∨ k = 7 ∨ k = 8 ∨ k = 9 := by omega
  rcases h with rfl | rfl | rfl | rfl | rfl | rfl | rfl | rfl | rfl | rfl
  · exact arr_run_9_0
  · exact arr_run_9_1
  · exact arr_run_9_2
  · exact arr_run_9_3
  · exact arr_run_9_4
  · exact arr_run_9_5
  · exact arr_run_9_6
  · exact arr_run_9_7
  · exact arr_run_9_8
  · exact arr_run_9_9
end Go.Proofs.Ytknpoojkjmgihaa
