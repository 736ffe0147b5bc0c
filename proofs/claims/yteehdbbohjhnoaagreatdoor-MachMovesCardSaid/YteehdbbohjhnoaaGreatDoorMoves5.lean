/-
  Layer 09: instructions that move a number do not change it: runs, part 5.
-/
import Derived.Test.YteehdbbohjhnoaaGreatDoorMoves
namespace Go.Proofs.YteehdbbohjhnoaaGreatDoor.MachMoves
open Go.Xq Go.Proofs.YteehdbbohjhnoaaGreatDoor
set_option maxRecDepth 1000000
theorem run_5_0 (b : Nat) (h0 : Nat → Option Obj) : run 5 0 fs b h0 = true := by kernel_rfl
theorem run_5_1 (b : Nat) (h0 : Nat → Option Obj) : run 5 1 fs b h0 = true := by kernel_rfl
theorem run_5_2 (b : Nat) (h0 : Nat → Option Obj) : run 5 2 fs b h0 = true := by kernel_rfl
theorem run_5_3 (b : Nat) (h0 : Nat → Option Obj) : run 5 3 fs b h0 = true := by kernel_rfl
theorem run_5_4 (b : Nat) (h0 : Nat → Option Obj) : run 5 4 fs b h0 = true := by kernel_rfl
theorem run_5_5 (b : Nat) (h0 : Nat → Option Obj) : run 5 5 fs b h0 = true := by kernel_rfl
theorem run_5_6 (b : Nat) (h0 : Nat → Option Obj) : run 5 6 fs b h0 = true := by kernel_rfl
end Go.Proofs.YteehdbbohjhnoaaGreatDoor.MachMoves
