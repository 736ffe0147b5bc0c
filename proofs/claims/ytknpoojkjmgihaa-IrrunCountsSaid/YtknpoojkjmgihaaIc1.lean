/-
  Layer 11: a loop that counts down tells what it counted: runs, part 1.
-/
import Derived.Test.YtknpoojkjmgihaaIc
namespace Go.Proofs.Ytknpoojkjmgihaa.IrrunCounts
open Go.Xq Go.Proofs.Ytknpoojkjmgihaa
set_option maxRecDepth 1000000
theorem loop_0 : runP False efacts (iP 0) (o178 625 0 0 1 0) 725 (7 + 6 * 0) 1 0 (stepsE 0) 741 = true := by kernel_rfl
theorem run_0 : run (.lit (.ofNat 0)) (fun _ => True) [] (partP (iP 0) 1 0 (stepsE 0) 741) = true := by kernel_rfl
theorem loop_3 : runP False efacts (iP 3) (o178 1399 0 0 1 3) 1820 (7 + 6 * 3) 1 3 (stepsE 3) 1836 = true := by kernel_rfl
theorem run_3 : run (.lit (.ofNat 3)) (fun _ => True) [] (partP (iP 3) 1 3 (stepsE 3) 1836) = true := by kernel_rfl
theorem loop_12 : runP False efacts (iP 12) (o178 3721 0 0 1 12) 5105 (7 + 6 * 12) 1 12 (stepsE 12) 5121 = true := by kernel_rfl
theorem run_12 : run (.lit (.ofNat 12)) (fun _ => True) [] (partP (iP 12) 1 12 (stepsE 12) 5121) = true := by kernel_rfl
theorem loop_15 : runP False efacts (iP 15) (o178 4495 0 0 1 15) 6200 (7 + 6 * 15) 1 15 (stepsE 15) 6216 = true := by kernel_rfl
theorem run_15 : run (.lit (.ofNat 15)) (fun _ => True) [] (partP (iP 15) 1 15 (stepsE 15) 6216) = true := by kernel_rfl
theorem loop_24 : runP False efacts (iP 24) (o178 6817 0 0 1 24) 9485 (7 + 6 * 24) 1 24 (stepsE 24) 9501 = true := by kernel_rfl
theorem run_24 : run (.lit (.ofNat 24)) (fun _ => True) [] (partP (iP 24) 1 24 (stepsE 24) 9501) = true := by kernel_rfl
theorem loop_27 : runP False efacts (iP 27) (o178 7591 0 0 1 27) 10580 (7 + 6 * 27) 1 27 (stepsE 27) 10596 = true := by kernel_rfl
theorem run_27 : run (.lit (.ofNat 27)) (fun _ => True) [] (partP (iP 27) 1 27 (stepsE 27) 10596) = true := by kernel_rfl
theorem loop_36 : runP False efacts (iP 36) (o178 9913 0 0 1 36) 13865 (7 + 6 * 36) 1 36 (stepsE 36) 13881 = true := by kernel_rfl
theorem run_36 : run (.lit (.ofNat 36)) (fun _ => True) [] (partP (iP 36) 1 36 (stepsE 36) 13881) = true := by kernel_rfl
theorem loop_39 : runP False efacts (iP 39) (o178 10687 0 0 1 39) 14960 (7 + 6 * 39) 1 39 (stepsE 39) 14976 = true := by kernel_rfl
theorem run_39 : run (.lit (.ofNat 39)) (fun _ => True) [] (partP (iP 39) 1 39 (stepsE 39) 14976) = true := by kernel_rfl
theorem loop_48 : runP False efacts (iP 48) (o178 13009 0 0 1 48) 18245 (7 + 6 * 48) 1 48 (stepsE 48) 18261 = true := by kernel_rfl
theorem run_48 : run (.lit (.ofNat 48)) (fun _ => True) [] (partP (iP 48) 1 48 (stepsE 48) 18261) = true := by kernel_rfl
end Go.Proofs.Ytknpoojkjmgihaa.IrrunCounts
