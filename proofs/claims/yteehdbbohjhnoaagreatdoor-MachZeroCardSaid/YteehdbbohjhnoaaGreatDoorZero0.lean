/-
  Layer 09: x0 is 0, whatever is done to it: runs, part 0.
-/
import Derived.Test.YteehdbbohjhnoaaGreatDoorZero
namespace Go.Proofs.YteehdbbohjhnoaaGreatDoor.MachZero
open Go.Xq Go.Proofs.YteehdbbohjhnoaaGreatDoor
set_option maxRecDepth 1000000
theorem run_0 (b : Nat) (h0 : Nat → Option Obj) : run 0 [] b h0 = true := by kernel_rfl
theorem run_1 (b : Nat) (h0 : Nat → Option Obj) : run 1 [] b h0 = true := by kernel_rfl
theorem run_2 (b : Nat) (h0 : Nat → Option Obj) : run 2 [] b h0 = true := by kernel_rfl
theorem run_3 (b : Nat) (h0 : Nat → Option Obj) : run 3 [] b h0 = true := by kernel_rfl
theorem run_4 (b : Nat) (h0 : Nat → Option Obj) : run 4 [] b h0 = true := by kernel_rfl
theorem run_5 (b : Nat) (h0 : Nat → Option Obj) : run 5 [] b h0 = true := by kernel_rfl
theorem run_6_t (b : Nat) (h0 : Nat → Option Obj) : run 6 [⟨.lss, .lit 0, .conv .u64 (.var 0), true⟩] b h0 = true := by kernel_rfl
theorem run_6_f (b : Nat) (h0 : Nat → Option Obj) : run 6 [⟨.lss, .lit 0, .conv .u64 (.var 0), false⟩] b h0 = true := by kernel_rfl
end Go.Proofs.YteehdbbohjhnoaaGreatDoor.MachZero
