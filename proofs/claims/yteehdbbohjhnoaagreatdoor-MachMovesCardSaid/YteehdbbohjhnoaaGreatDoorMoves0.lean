/-
  Layer 09: instructions that move a number do not change it: runs, part 0.
-/
import Derived.Test.YteehdbbohjhnoaaGreatDoorMoves
namespace Go.Proofs.YteehdbbohjhnoaaGreatDoor.MachMoves
open Go.Xq Go.Proofs.YteehdbbohjhnoaaGreatDoor
set_option maxRecDepth 1000000
theorem run_0_0 (b : Nat) (h0 : Nat → Option Obj) : run 0 0 fs b h0 = true := by kernel_rfl
theorem run_0_1 (b : Nat) (h0 : Nat → Option Obj) : run 0 1 fs b h0 = true := by kernel_rfl
theorem run_0_2 (b : Nat) (h0 : Nat → Option Obj) : run 0 2 fs b h0 = true := by kernel_rfl
theorem run_0_3 (b : Nat) (h0 : Nat → Option Obj) : run 0 3 fs b h0 = true := by kernel_rfl
theorem run_0_4 (b : Nat) (h0 : Nat → Option Obj) : run 0 4 fs b h0 = true := by kernel_rfl
theorem run_0_5 (b : Nat) (h0 : Nat → Option Obj) : run 0 5 fs b h0 = true := by kernel_rfl
theorem run_0_6 (b : Nat) (h0 : Nat → Option Obj) : run 0 6 fs b h0 = true := by kernel_rfl
end Go.Proofs.YteehdbbohjhnoaaGreatDoor.MachMoves
