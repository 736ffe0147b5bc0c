/-
  Layer 11: a loop that counts down tells what it counted: runs, part 3.
-/
import Derived.Test.YtknpoojkjmgihaaIc
namespace Go.Proofs.Ytknpoojkjmgihaa.IrrunCounts
open Go.Xq Go.Proofs.Ytknpoojkjmgihaa
set_option maxRecDepth 1000000
theorem loop_5 : runP False efacts (iP 5) (o178 1915 0 0 1 5) 2550 (7 + 6 * 5) 1 5 (stepsE 5) 2566 = true := by kernel_rfl
theorem run_5 : run (.lit (.ofNat 5)) (fun _ => True) [] (partP (iP 5) 1 5 (stepsE 5) 2566) = true := by kernel_rfl
theorem loop_10 : runP False efacts (iP 10) (o178 3205 0 0 1 10) 4375 (7 + 6 * 10) 1 10 (stepsE 10) 4391 = true := by kernel_rfl
theorem run_10 : run (.lit (.ofNat 10)) (fun _ => True) [] (partP (iP 10) 1 10 (stepsE 10) 4391) = true := by kernel_rfl
theorem loop_17 : runP False efacts (iP 17) (o178 5011 0 0 1 17) 6930 (7 + 6 * 17) 1 17 (stepsE 17) 6946 = true := by kernel_rfl
theorem run_17 : run (.lit (.ofNat 17)) (fun _ => True) [] (partP (iP 17) 1 17 (stepsE 17) 6946) = true := by kernel_rfl
theorem loop_22 : runP False efacts (iP 22) (o178 6301 0 0 1 22) 8755 (7 + 6 * 22) 1 22 (stepsE 22) 8771 = true := by kernel_rfl
theorem run_22 : run (.lit (.ofNat 22)) (fun _ => True) [] (partP (iP 22) 1 22 (stepsE 22) 8771) = true := by kernel_rfl
theorem loop_29 : runP False efacts (iP 29) (o178 8107 0 0 1 29) 11310 (7 + 6 * 29) 1 29 (stepsE 29) 11326 = true := by kernel_rfl
theorem run_29 : run (.lit (.ofNat 29)) (fun _ => True) [] (partP (iP 29) 1 29 (stepsE 29) 11326) = true := by kernel_rfl
theorem loop_34 : runP False efacts (iP 34) (o178 9397 0 0 1 34) 13135 (7 + 6 * 34) 1 34 (stepsE 34) 13151 = true := by kernel_rfl
theorem run_34 : run (.lit (.ofNat 34)) (fun _ => True) [] (partP (iP 34) 1 34 (stepsE 34) 13151) = true := by kernel_rfl
theorem loop_41 : runP False efacts (iP 41) (o178 11203 0 0 1 41) 15690 (7 + 6 * 41) 1 41 (stepsE 41) 15706 = true := by kernel_rfl
theorem run_41 : run (.lit (.ofNat 41)) (fun _ => True) [] (partP (iP 41) 1 41 (stepsE 41) 15706) = true := by kernel_rfl
theorem loop_46 : runP False efacts (iP 46) (o178 12493 0 0 1 46) 17515 (7 + 6 * 46) 1 46 (stepsE 46) 17531 = true := by kernel_rfl
theorem run_46 : run (.lit (.ofNat 46)) (fun _ => True) [] (partP (iP 46) 1 46 (stepsE 46) 17531) = true := by kernel_rfl
end Go.Proofs.Ytknpoojkjmgihaa.IrrunCounts
