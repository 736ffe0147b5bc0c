/-
  Layer 9: each word of the arrays has its own number: runs, part 1.
-/
import Derived.Test.YteehdbbohjhnoaaGreatDoorWords
namespace Go.Proofs.YteehdbbohjhnoaaGreatDoor.MachWords
open Go.Xq Go.Proofs.YteehdbbohjhnoaaGreatDoor
set_option maxRecDepth 1000000
theorem run_4 (b : Nat) (h0 : Nat → Option Obj) : run f4 b h0 = true := by kernel_rfl
theorem run_5 (b : Nat) (h0 : Nat → Option Obj) : run f5 b h0 = true := by kernel_rfl
end Go.Proofs.YteehdbbohjhnoaaGreatDoor.MachWords
