/-
  Layer 11: a loop that counts down tells what it counted: runs, part 5.
-/
import Derived.Test.YtknpoojkjmgihaaIc
namespace Go.Proofs.Ytknpoojkjmgihaa.IrrunCounts
open Go.Xq Go.Proofs.Ytknpoojkjmgihaa
set_option maxRecDepth 1000000
theorem loop_7 : runP False efacts (iP 7) (o178 2431 0 0 1 7) 3280 (7 + 6 * 7) 1 7 (stepsE 7) 3296 = true := by kernel_rfl
theorem run_7 : run (.lit (.ofNat 7)) (fun _ => True) [] (partP (iP 7) 1 7 (stepsE 7) 3296) = true := by kernel_rfl
theorem loop_8 : runP False efacts (iP 8) (o178 2689 0 0 1 8) 3645 (7 + 6 * 8) 1 8 (stepsE 8) 3661 = true := by kernel_rfl
theorem run_8 : run (.lit (.ofNat 8)) (fun _ => True) [] (partP (iP 8) 1 8 (stepsE 8) 3661) = true := by kernel_rfl
theorem loop_19 : runP False efacts (iP 19) (o178 5527 0 0 1 19) 7660 (7 + 6 * 19) 1 19 (stepsE 19) 7676 = true := by kernel_rfl
theorem run_19 : run (.lit (.ofNat 19)) (fun _ => True) [] (partP (iP 19) 1 19 (stepsE 19) 7676) = true := by kernel_rfl
theorem loop_20 : runP False efacts (iP 20) (o178 5785 0 0 1 20) 8025 (7 + 6 * 20) 1 20 (stepsE 20) 8041 = true := by kernel_rfl
theorem run_20 : run (.lit (.ofNat 20)) (fun _ => True) [] (partP (iP 20) 1 20 (stepsE 20) 8041) = true := by kernel_rfl
theorem loop_31 : runP False efacts (iP 31) (o178 8623 0 0 1 31) 12040 (7 + 6 * 31) 1 31 (stepsE 31) 12056 = true := by kernel_rfl
theorem run_31 : run (.lit (.ofNat 31)) (fun _ => True) [] (partP (iP 31) 1 31 (stepsE 31) 12056) = true := by kernel_rfl
theorem loop_32 : runP False efacts (iP 32) (o178 8881 0 0 1 32) 12405 (7 + 6 * 32) 1 32 (stepsE 32) 12421 = true := by kernel_rfl
theorem run_32 : run (.lit (.ofNat 32)) (fun _ => True) [] (partP (iP 32) 1 32 (stepsE 32) 12421) = true := by kernel_rfl
theorem loop_43 : runP False efacts (iP 43) (o178 11719 0 0 1 43) 16420 (7 + 6 * 43) 1 43 (stepsE 43) 16436 = true := by kernel_rfl
theorem run_43 : run (.lit (.ofNat 43)) (fun _ => True) [] (partP (iP 43) 1 43 (stepsE 43) 16436) = true := by kernel_rfl
theorem loop_44 : runP False efacts (iP 44) (o178 11977 0 0 1 44) 16785 (7 + 6 * 44) 1 44 (stepsE 44) 16801 = true := by kernel_rfl
theorem run_44 : run (.lit (.ofNat 44)) (fun _ => True) [] (partP (iP 44) 1 44 (stepsE 44) 16801) = true := by kernel_rfl
end Go.Proofs.Ytknpoojkjmgihaa.IrrunCounts
