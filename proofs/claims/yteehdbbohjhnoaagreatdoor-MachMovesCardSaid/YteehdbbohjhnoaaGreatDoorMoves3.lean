/-
  Layer 09: instructions that move a number do not change it: runs, part 3.
-/
import Derived.Test.YteehdbbohjhnoaaGreatDoorMoves
namespace Go.Proofs.YteehdbbohjhnoaaGreatDoor.MachMoves
open Go.Xq Go.Proofs.YteehdbbohjhnoaaGreatDoor
set_option maxRecDepth 1000000
theorem run_3_0 (b : Nat) (h0 : Nat → Option Obj) : run 3 0 fs b h0 = true := by kernel_rfl
theorem run_3_1 (b : Nat) (h0 : Nat → Option Obj) : run 3 1 fs b h0 = true := by kernel_rfl
theorem run_3_2 (b : Nat) (h0 : Nat → Option Obj) : run 3 2 fs b h0 = true := by kernel_rfl
theorem run_3_3 (b : Nat) (h0 : Nat → Option Obj) : run 3 3 fs b h0 = true := by kernel_rfl
theorem run_3_4 (b : Nat) (h0 : Nat → Option Obj) : run 3 4 fs b h0 = true := by kernel_rfl
theorem run_3_5 (b : Nat) (h0 : Nat → Option Obj) : run 3 5 fs b h0 = true := by kernel_rfl
theorem run_3_6 (b : Nat) (h0 : Nat → Option Obj) : run 3 6 fs b h0 = true := by kernel_rfl
end Go.Proofs.YteehdbbohjhnoaaGreatDoor.MachMoves
