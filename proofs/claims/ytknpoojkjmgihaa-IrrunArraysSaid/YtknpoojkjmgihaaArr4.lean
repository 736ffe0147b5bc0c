/-
  Layer 11: what was stored at place 4.
-/
import Derived.Test.YtknpoojkjmgihaaArr
namespace Go.Proofs.Ytknpoojkjmgihaa
set_option maxRecDepth 1000000
theorem arr_run_4_0 : arrRun 4 0 = true := by kernel_rfl
theorem arr_run_4_1 : arrRun 4 1 = true := by kernel_rfl
theorem arr_run_4_2 : arrRun 4 2 = true := by kernel_rfl
theorem arr_run_4_3 : arrRun 4 3 = true := by kernel_rfl
theorem arr_run_4_4 : arrRun 4 4 = true := by kernel_rfl
theorem arr_run_4_5 : arrRun 4 5 = true := by kernel_rfl
theorem arr_run_4_6 : arrRun 4 6 = true := by kernel_rfl
theorem arr_run_4_7 : arrRun 4 7 = true := by kernel_rfl
theorem arr_run_4_8 : arrRun 4 8 = true := by kernel_rfl
theorem arr_run_4_9 : arrRun 4 9 = true := by kernel_rfl
theorem arr_runs_4 {k : Int} (h0 : 0 ≤ k) (h1 : k < 10) : arrRun 4 k = true := by
  have h : k = 0 ∨ k = 1 ∨ k = 2 ∨ k = 3 ∨ k = 4 ∨ k = 5 ∨ k = 6 ∨ k = 7 ∨ k = 8 ∨ k = 9 := by omega
  rcases h with rfl | rfl | rfl | rfl | rfl | rfl | rfl | rfl | rfl | rfl
  · exact arr_run_4_0
  · exact arr_run_4_1
  · exact arr_run_4_2
  · exact arr_run_4_3
  · exact arr_run_4_4
  · exact arr_run_4_5
  · exact arr_run_4_6
  · exact arr_run_4_7
  · exact arr_run_4_8
  · exact arr_run_4_9
end Go.Proofs.Ytknpoojkjmgihaa
