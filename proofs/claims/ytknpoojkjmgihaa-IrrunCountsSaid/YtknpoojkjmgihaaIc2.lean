/-
  Layer 11: a loop that counts down tells what it counted: runs, part 2.
-/
import Derived.Test.YtknpoojkjmgihaaIc
namespace Go.Proofs.Ytknpoojkjmgihaa.IrrunCounts
open Go.Xq Go.Proofs.Ytknpoojkjmgihaa
set_option maxRecDepth 1000000
theorem loop_4 : runP False efacts (iP 4) (o178 1657 0 0 1 4) 2185 (7 + 6 * 4) 1 4 (stepsE 4) 2201 = true := by kernel_rfl
theorem run_4 : run (.lit (.ofNat 4)) (fun _ => True) [] (partP (iP 4) 1 4 (stepsE 4) 2201) = true := by kernel_rfl
theorem loop_11 : runP False efacts (iP 11) (o178 3463 0 0 1 11) 4740 (7 + 6 * 11) 1 11 (stepsE 11) 4756 = true := by kernel_rfl
theorem run_11 : run (.lit (.ofNat 11)) (fun _ => True) [] (partP (iP 11) 1 11 (stepsE 11) 4756) = true := by kernel_rfl
theorem loop_16 : runP False efacts (iP 16) (o178 4753 0 0 1 16) 6565 (7 + 6 * 16) 1 16 (stepsE 16) 6581 = true := by kernel_rfl
theorem run_16 : run (.lit (.ofNat 16)) (fun _ => True) [] (partP (iP 16) 1 16 (stepsE 16) 6581) = true := by kernel_rfl
theorem loop_23 : runP False efacts (iP 23) (o178 6559 0 0 1 23) 9120 (7 + 6 * 23) 1 23 (stepsE 23) 9136 = true := by kernel_rfl
theorem run_23 : run (.lit (.ofNat 23)) (fun _ => True) [] (partP (iP 23) 1 23 (stepsE 23) 9136) = true := by kernel_rfl
theorem loop_28 : runP False efacts (iP 28) (o178 7849 0 0 1 28) 10945 (7 + 6 * 28) 1 28 (stepsE 28) 10961 = true := by kernel_rfl
theorem run_28 : run (.lit (.ofNat 28)) (fun _ => True) [] (partP (iP 28) 1 28 (stepsE 28) 10961) = true := by kernel_rfl
theorem loop_35 : runP False efacts (iP 35) (o178 9655 0 0 1 35) 13500 (7 + 6 * 35) 1 35 (stepsE 35) 13516 = true := by kernel_rfl
theorem run_35 : run (.lit (.ofNat 35)) (fun _ => True) [] (partP (iP 35) 1 35 (stepsE 35) 13516) = true := by kernel_rfl
theorem loop_40 : runP False efacts (iP 40) (o178 10945 0 0 1 40) 15325 (7 + 6 * 40) 1 40 (stepsE 40) 15341 = true := by kernel_rfl
theorem run_40 : run (.lit (.ofNat 40)) (fun _ => True) [] (partP (iP 40) 1 40 (stepsE 40) 15341) = true := by kernel_rfl
theorem loop_47 : runP False efacts (iP 47) (o178 12751 0 0 1 47) 17880 (7 + 6 * 47) 1 47 (stepsE 47) 17896 = true := by kernel_rfl
theorem run_47 : run (.lit (.ofNat 47)) (fun _ => True) [] (partP (iP 47) 1 47 (stepsE 47) 17896) = true := by kernel_rfl
end Go.Proofs.Ytknpoojkjmgihaa.IrrunCounts
