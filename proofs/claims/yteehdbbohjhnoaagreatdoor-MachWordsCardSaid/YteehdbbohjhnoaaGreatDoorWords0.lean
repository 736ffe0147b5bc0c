/-
  Layer 9: each word of the arrays has its own number: runs, part 0.
-/
import Derived.Test.YteehdbbohjhnoaaGreatDoorWords
namespace Go.Proofs.YteehdbbohjhnoaaGreatDoor.MachWords
open Go.Xq Go.Proofs.YteehdbbohjhnoaaGreatDoor
set_option maxRecDepth 1000000
theorem run_nil (b : Nat) (h0 : Nat → Option Obj) : runn f0 b h0 = true := by kernel_rfl
theorem run_0 (b : Nat) (h0 : Nat → Option Obj) : run f0 b h0 = true := by kernel_rfl
theorem run_1 (b : Nat) (h0 : Nat → Option Obj) : run f1 b h0 = true := by kernel_rfl
theorem run_2 (b : Nat) (h0 : Nat → Option Obj) : run f2 b h0 = true := by kernel_rfl
theorem run_3 (b : Nat) (h0 : Nat → Option Obj) : run f3 b h0 = true := by kernel_rfl
end Go.Proofs.YteehdbbohjhnoaaGreatDoor.MachWords
