/-
  Layer 11: what was stored at place 6.
-/
import Derived.Test.YtknpoojkjmgihaaArr
namespace Go.Proofs.Ytknpoojkjmgihaa
set_option maxRecDepth 1000000
theorem arr_run_6_0 : arrRun 6 0 = true := by kernel_rfl
theorem arr_run_6_1 : arrRun 6 1 = true := by kernel_rfl
theorem arr_run_6_2 : arrRun 6 2 = true := by kernel_rfl
theorem arr_run_6_3 : arrRun 6 3 = true := by kernel_rfl
theorem arr_run_6_4 : arrRun 6 4 = true := by kernel_rfl
theorem arr_run_6_5 : arrRun 6 5 = true := by kernel_rfl
theorem arr_run_6_6 : arrRun 6 6 = true := by kernel_rfl
theorem arr_run_6_7 : arrRun 6 7 = true := by kernel_rfl
theorem arr_run_6_8 : arrRun 6 8 = true := by kernel_rfl
theorem arr_run_6_9 : arrRun 6 9 = true := by kernel_rfl
theorem arr_runs_6 {k : Int} (h0 : 0 ≤ k) (h1 : k < 10) : arrRun 6 k = true := by
  have h : k = 0 ∨ k = 1 ∨ k = 2 ∨ k = 3 ∨ k = 4 ∨ k = 5 ∨ k = 6 ∨ k = 7 ∨ k = 8 ∨ k = 9 := by omega
  rcases h with rfl | rfl | rfl | rfl | rfl | rfl | rfl | rfl | rfl | rfl
  · exact arr_run_6_0
  · exact arr_run_6_1
  · exact arr_run_6_2
  · exact arr_run_6_3
  · exact arr_run_6_4
  · exact arr_run_6_5
  · exact arr_run_6_6
  · exact arr_run_6_7
  · exact arr_run_6_8
  · exact arr_run_6_9
end Go.Proofs.Ytknpoojkjmgihaa
