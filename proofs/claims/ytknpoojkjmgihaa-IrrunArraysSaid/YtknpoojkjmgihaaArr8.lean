/-
  Layer 11: what was stored at place 8.
-/
import Derived.Test.YtknpoojkjmgihaaArr
namespace Go.Proofs.Ytknpoojkjmgihaa
set_option maxRecDepth 1000000
theorem arr_run_8_0 : arrRun 8 0 = true := by kernel_rfl
theorem arr_run_8_1 : arrRun 8 1 = true := by kernel_rfl
theorem arr_run_8_2 : arrRun 8 2 = true := by kernel_rfl
theorem arr_run_8_3 : arrRun 8 3 = true := by kernel_rfl
theorem arr_run_8_4 : arrRun 8 4 = true := by kernel_rfl
theorem arr_run_8_5 : arrRun 8 5 = true := by kernel_rfl
theorem arr_run_8_6 : arrRun 8 6 = true := by kernel_rfl
theorem arr_run_8_7 : arrRun 8 7 = true := by kernel_rfl
theorem arr_run_8_8 : arrRun 8 8 = true := by kernel_rfl
theorem arr_run_8_9 : arrRun 8 9 = true := by kernel_rfl
theorem arr_runs_8 {k : Int} (h0 : 0 ≤ k) (h1 : k < 10) : arrRun 8 k = true := by
  have h : k = 0 ∨ k = 1 ∨ k = 2 ∨ k = 3 ∨ k = 4 ∨ k = 5 ∨ k = 6 ∨ k = 7 ∨ k = 8 ∨ k = 9 := by omega
  rcases h with rfl | rfl | rfl | rfl | rfl | rfl | rfl | rfl | rfl | rfl
  · exact arr_run_8_0
  · exact arr_run_8_1
  · exact arr_run_8_2
  · exact arr_run_8_3
  · exact arr_run_8_4
  · exact arr_run_8_5
  · exact arr_run_8_6
  · exact arr_run_8_7
  · exact arr_run_8_8
  · exact arr_run_8_9
end Go.Proofs.Ytknpoojkjmgihaa
