/-
  Layer 11: what was stored at place 10.
-/
import Derived.Test.YtknpoojkjmgihaaArr
namespace Go.Proofs.Ytknpoojkjmgihaa
set_option maxRecDepth 1000000
theorem arr_run_10_0 : arrRun 10 0 = true := by kernel_rfl
theorem arr_run_10_1 : arrRun 10 1 = true := by kernel_rfl
theorem arr_run_10_2 : arrRun 10 2 = true := by kernel_rfl
theorem arr_run_10_3 : arrRun 10 3 = true := by kernel_rfl
theorem arr_run_10_4 : arrRun 10 4 = true := by kernel_rfl
theorem arr_run_10_5 : arrRun 10 5 = true := by kernel_rfl
theorem arr_run_10_6 : arrRun 10 6 = true := by kernel_rfl
theorem arr_run_10_7 : arrRun 10 7 = true := by kernel_rfl
theorem arr_run_10_8 : arrRun 10 8 = true := by kernel_rfl
theorem arr_run_10_9 : arrRun 10 9 = true := by kernel_rfl
theorem arr_runs_10 {k : Int} (h0 : 0 ≤ k) (h1 : k < 10) : arrRun 10 k = true := by
  have h : k = 0 ∨ k = 1 ∨ k = 2 ∨ k = 3 ∨ k = 4 ∨ k = 5 ∨ k = 6 ∨ k = 7 ∨ k = 8 ∨ k = 9 := by omega
  rcases h with rfl | rfl | rfl | rfl | rfl | rfl | rfl | rfl | rfl | rfl
  · exact arr_run_10_0
  · exact arr_run_10_1
  · exact arr_run_10_2
  · exact arr_run_10_3
  · exact arr_run_10_4
  · exact arr_run_10_5
  · exact arr_run_10_6
  · exact arr_run_10_7
  · exact arr_run_10_8
  · exact arr_run_10_9
end Go.Proofs.Ytknpoojkjmgihaa
