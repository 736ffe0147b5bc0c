/-
  Layer 11: a loop that counts down tells what it counted: runs, part 0.
-/
import Derived.Test.YtknpoojkjmgihaaIc
namespace Go.Proofs.Ytknpoojkjmgihaa.IrrunCounts
open Go.Xq Go.Proofs.Ytknpoojkjmgihaa
set_option maxRecDepth 1000000
theorem loop_1 : runP False efacts (iP 1) (o178 883 0 0 1 1) 1090 (7 + 6 * 1) 1 1 (stepsE 1) 1106 = true := by kernel_rfl
theorem run_1 : run (.lit (.ofNat 1)) (fun _ => True) [] (partP (iP 1) 1 1 (stepsE 1) 1106) = true := by kernel_rfl
theorem loop_2 : runP False efacts (iP 2) (o178 1141 0 0 1 2) 1455 (7 + 6 * 2) 1 2 (stepsE 2) 1471 = true := by kernel_rfl
theorem run_2 : run (.lit (.ofNat 2)) (fun _ => True) [] (partP (iP 2) 1 2 (stepsE 2) 1471) = true := by kernel_rfl
theorem loop_13 : runP False efacts (iP 13) (o178 3979 0 0 1 13) 5470 (7 + 6 * 13) 1 13 (stepsE 13) 5486 = true := by kernel_rfl
theorem run_13 : run (.lit (.ofNat 13)) (fun _ => True) [] (partP (iP 13) 1 13 (stepsE 13) 5486) = true := by kernel_rfl
theorem loop_14 : runP False efacts (iP 14) (o178 4237 0 0 1 14) 5835 (7 + 6 * 14) 1 14 (stepsE 14) 5851 = true := by kernel_rfl
theorem run_14 : run (.lit (.ofNat 14)) (fun _ => True) [] (partP (iP 14) 1 14 (stepsE 14) 5851) = true := by kernel_rfl
theorem loop_25 : runP False efacts (iP 25) (o178 7075 0 0 1 25) 9850 (7 + 6 * 25) 1 25 (stepsE 25) 9866 = true := by kernel_rfl
theorem run_25 : run (.lit (.ofNat 25)) (fun _ => True) [] (partP (iP 25) 1 25 (stepsE 25) 9866) = true := by kernel_rfl
theorem loop_26 : runP False efacts (iP 26) (o178 7333 0 0 1 26) 10215 (7 + 6 * 26) 1 26 (stepsE 26) 10231 = true := by kernel_rfl
theorem run_26 : run (.lit (.ofNat 26)) (fun _ => True) [] (partP (iP 26) 1 26 (stepsE 26) 10231) = true := by kernel_rfl
theorem loop_37 : runP False efacts (iP 37) (o178 10171 0 0 1 37) 14230 (7 + 6 * 37) 1 37 (stepsE 37) 14246 = true := by kernel_rfl
theorem run_37 : run (.lit (.ofNat 37)) (fun _ => True) [] (partP (iP 37) 1 37 (stepsE 37) 14246) = true := by kernel_rfl
theorem loop_38 : runP False efacts (iP 38) (o178 10429 0 0 1 38) 14595 (7 + 6 * 38) 1 38 (stepsE 38) 14611 = true := by kernel_rfl
theorem run_38 : run (.lit (.ofNat 38)) (fun _ => True) [] (partP (iP 38) 1 38 (stepsE 38) 14611) = true := by kernel_rfl
theorem loop_deep : runP True dfacts (.int .i64 (.var 3)) (o178 13009 50 0 4 0) 13236 200 4 0 deepE 13252 = true := by kernel_rfl
theorem run_deep : run (.var 3) (fun I => 48 < I 3) mf (partP (.int .i64 (.var 3)) 4 0 deepE 13252) = true := by kernel_rfl
end Go.Proofs.Ytknpoojkjmgihaa.IrrunCounts
