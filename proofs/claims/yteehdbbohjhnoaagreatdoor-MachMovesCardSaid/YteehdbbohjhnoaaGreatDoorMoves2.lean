/-
  Layer 09: instructions that move a number do not change it: runs, part 2.
-/
import Derived.Test.YteehdbbohjhnoaaGreatDoorMoves
namespace Go.Proofs.YteehdbbohjhnoaaGreatDoor.MachMoves
open Go.Xq Go.Proofs.YteehdbbohjhnoaaGreatDoor
set_option maxRecDepth 1000000
theorem run_2_0 (b : Nat) (h0 : Nat → Option Obj) : run 2 0 fs b h0 = true := by kernel_rfl
theorem run_2_1 (b : Nat) (h0 : Nat → Option Obj) : run 2 1 fs b h0 = true := by kernel_rfl
theorem run_2_2 (b : Nat) (h0 : Nat → Option Obj) : run 2 2 fs b h0 = true := by kernel_rfl
theorem run_2_3 (b : Nat) (h0 : Nat → Option Obj) : run 2 3 fs b h0 = true := by kernel_rfl
theorem run_2_4 (b : Nat) (h0 : Nat → Option Obj) : run 2 4 fs b h0 = true := by kernel_rfl
theorem run_2_5 (b : Nat) (h0 : Nat → Option Obj) : run 2 5 fs b h0 = true := by kernel_rfl
theorem run_2_6 (b : Nat) (h0 : Nat → Option Obj) : run 2 6 fs b h0 = true := by kernel_rfl
end Go.Proofs.YteehdbbohjhnoaaGreatDoor.MachMoves
