/-
  Layer 09: instructions that move a number do not change it: runs, part 1.
-/
import Derived.Test.YteehdbbohjhnoaaGreatDoorMoves
namespace Go.Proofs.YteehdbbohjhnoaaGreatDoor.MachMoves
open Go.Xq Go.Proofs.YteehdbbohjhnoaaGreatDoor
set_option maxRecDepth 1000000
theorem run_1_0 (b : Nat) (h0 : Nat → Option Obj) : run 1 0 fs b h0 = true := by kernel_rfl
theorem run_1_1 (b : Nat) (h0 : Nat → Option Obj) : run 1 1 fs b h0 = true := by kernel_rfl
theorem run_1_2 (b : Nat) (h0 : Nat → Option Obj) : run 1 2 fs b h0 = true := by kernel_rfl
theorem run_1_3 (b : Nat) (h0 : Nat → Option Obj) : run 1 3 fs b h0 = true := by kernel_rfl
theorem run_1_4 (b : Nat) (h0 : Nat → Option Obj) : run 1 4 fs b h0 = true := by kernel_rfl
theorem run_1_5 (b : Nat) (h0 : Nat → Option Obj) : run 1 5 fs b h0 = true := by kernel_rfl
theorem run_1_6 (b : Nat) (h0 : Nat → Option Obj) : run 1 6 fs b h0 = true := by kernel_rfl
end Go.Proofs.YteehdbbohjhnoaaGreatDoor.MachMoves
