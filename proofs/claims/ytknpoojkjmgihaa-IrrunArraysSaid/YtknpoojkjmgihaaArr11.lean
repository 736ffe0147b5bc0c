/-
  Layer 11: what was stored at place 11.
-/
import Derived.Test.YtknpoojkjmgihaaArr
namespace Go.Proofs.Ytknpoojkjmgihaa
set_option maxRecDepth 1000000
theorem arr_run_11_0 : arrRun 11 0 = true := by kernel_rfl
theorem arr_run_11_1 : arrRun 11 1 = true := by kernel_rfl
theorem arr_run_11_2 : arrRun 11 2 = true := by kernel_rfl
theorem arr_run_11_3 : arrRun 11 3 = true := by kernel_rfl
theorem arr_run_11_4 : arrRun 11 4 = true := by kernel_rfl
theorem arr_run_11_5 : arrRun 11 5 = true := by kernel_rfl
theorem arr_run_11_6 : arrRun 11 6 = true := by kernel_rfl
theorem arr_run_11_7 : arrRun 11 7 = true := by kernel_rfl
theorem arr_run_11_8 : arrRun 11 8 = true := by kernel_rfl
theorem arr_run_11_9 : arrRun 11 9 = true := by kernel_rfl
theorem arr_runs_11 {k : Int} (h0 : 0 ≤ k) (h1 : k < 10) : arrRun 11 k = true := by
  have h : k = 0 ∨ k = 1 ∨ k = 2 ∨ k = 3 ∨ k = 4 ∨ k = 5 ∨ k = 6 ∨ k = 7 ∨ k = 8 ∨ k = 9 := by omega
  rcases h with rfl | rfl | rfl | rfl | rfl | rfl | rfl | rfl | rfl | rfl
  · exact arr_run_11_0
  · exact arr_run_11_1
  · exact arr_run_11_2
  · exact arr_run_11_3
  · exact arr_run_11_4
  · exact arr_run_11_5
  · exact arr_run_11_6
  · exact arr_run_11_7
  · exact arr_run_11_8
  · exact arr_run_11_9
end Go.Proofs.Ytknpoojkjmgihaa
