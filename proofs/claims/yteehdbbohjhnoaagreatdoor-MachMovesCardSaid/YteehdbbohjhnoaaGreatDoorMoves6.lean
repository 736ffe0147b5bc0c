/-
  Layer 09: instructions that move a number do not change it: runs, part 6.
-/
import Derived.Test.YteehdbbohjhnoaaGreatDoorMoves
namespace Go.Proofs.YteehdbbohjhnoaaGreatDoor.MachMoves
open Go.Xq Go.Proofs.YteehdbbohjhnoaaGreatDoor
set_option maxRecDepth 1000000
theorem run_6_0 (b : Nat) (h0 : Nat → Option Obj) : run 6 0 fs b h0 = true := by kernel_rfl
theorem run_6_1 (b : Nat) (h0 : Nat → Option Obj) : run 6 1 fs b h0 = true := by kernel_rfl
theorem run_6_2 (b : Nat) (h0 : Nat → Option Obj) : run 6 2 fs b h0 = true := by kernel_rfl
theorem run_6_3 (b : Nat) (h0 : Nat → Option Obj) : run 6 3 fs b h0 = true := by kernel_rfl
theorem run_6_4 (b : Nat) (h0 : Nat → Option Obj) : run 6 4 fs b h0 = true := by kernel_rfl
theorem run_6_5 (b : Nat) (h0 : Nat → Option Obj) : run 6 5 fs b h0 = true := by kernel_rfl
theorem run_6_6 (b : Nat) (h0 : Nat → Option Obj) : run 6 6 fs b h0 = true := by kernel_rfl
end Go.Proofs.YteehdbbohjhnoaaGreatDoor.MachMoves
