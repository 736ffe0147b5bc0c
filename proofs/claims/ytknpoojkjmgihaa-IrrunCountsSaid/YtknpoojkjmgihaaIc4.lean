/-
  Layer 11: a loop that counts down tells what it counted: runs, part 4.
-/
import Derived.Test.YtknpoojkjmgihaaIc
namespace Go.Proofs.Ytknpoojkjmgihaa.IrrunCounts
open Go.Xq Go.Proofs.Ytknpoojkjmgihaa
set_option maxRecDepth 1000000
theorem loop_6 : runP False efacts (iP 6) (o178 2173 0 0 1 6) 2915 (7 + 6 * 6) 1 6 (stepsE 6) 2931 = true := by kernel_rfl
theorem run_6 : run (.lit (.ofNat 6)) (fun _ => True) [] (partP (iP 6) 1 6 (stepsE 6) 2931) = true := by kernel_rfl
theorem loop_9 : runP False efacts (iP 9) (o178 2947 0 0 1 9) 4010 (7 + 6 * 9) 1 9 (stepsE 9) 4026 = true := by kernel_rfl
theorem run_9 : run (.lit (.ofNat 9)) (fun _ => True) [] (partP (iP 9) 1 9 (stepsE 9) 4026) = true := by kernel_rfl
theorem loop_18 : runP False efacts (iP 18) (o178 5269 0 0 1 18) 7295 (7 + 6 * 18) 1 18 (stepsE 18) 7311 = true := by kernel_rfl
theorem run_18 : run (.lit (.ofNat 18)) (fun _ => True) [] (partP (iP 18) 1 18 (stepsE 18) 7311) = true := by kernel_rfl
theorem loop_21 : runP False efacts (iP 21) (o178 6043 0 0 1 21) 8390 (7 + 6 * 21) 1 21 (stepsE 21) 8406 = true := by kernel_rfl
theorem run_21 : run (.lit (.ofNat 21)) (fun _ => True) [] (partP (iP 21) 1 21 (stepsE 21) 8406) = true := by kernel_rfl
theorem loop_30 : runP False efacts (iP 30) (o178 8365 0 0 1 30) 11675 (7 + 6 * 30) 1 30 (stepsE 30) 11691 = true := by kernel_rfl
theorem run_30 : run (.lit (.ofNat 30)) (fun _ => True) [] (partP (iP 30) 1 30 (stepsE 30) 11691) = true := by kernel_rfl
theorem loop_33 : runP False efacts (iP 33) (o178 9139 0 0 1 33) 12770 (7 + 6 * 33) 1 33 (stepsE 33) 12786 = true := by kernel_rfl
theorem run_33 : run (.lit (.ofNat 33)) (fun _ => True) [] (partP (iP 33) 1 33 (stepsE 33) 12786) = true := by kernel_rfl
theorem loop_42 : runP False efacts (iP 42) (o178 11461 0 0 1 42) 16055 (7 + 6 * 42) 1 42 (stepsE 42) 16071 = true := by kernel_rfl
theorem run_42 : run (.lit (.ofNat 42)) (fun _ => True) [] (partP (iP 42) 1 42 (stepsE 42) 16071) = true := by kernel_rfl
theorem loop_45 : runP False efacts (iP 45) (o178 12235 0 0 1 45) 17150 (7 + 6 * 45) 1 45 (stepsE 45) 17166 = true := by kernel_rfl
theorem run_45 : run (.lit (.ofNat 45)) (fun _ => True) [] (partP (iP 45) 1 45 (stepsE 45) 17166) = true := by kernel_rfl
end Go.Proofs.Ytknpoojkjmgihaa.IrrunCounts
