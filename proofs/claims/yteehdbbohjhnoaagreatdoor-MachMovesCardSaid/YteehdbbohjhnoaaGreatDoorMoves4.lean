/-
  Layer 09: instructions that move a number do not change it: runs, part 4.
-/
import Derived.Test.YteehdbbohjhnoaaGreatDoorMoves
namespace Go.Proofs.YteehdbbohjhnoaaGreatDoor.MachMoves
open Go.Xq Go.Proofs.YteehdbbohjhnoaaGreatDoor
set_option maxRecDepth 1000000
theorem run_4_0 (b : Nat) (h0 : Nat → Option Obj) : run 4 0 fs b h0 = true := by kernel_rfl
theorem run_4_1 (b : Nat) (h0 : Nat → Option Obj) : run 4 1 fs b h0 = true := by kernel_rfl
theorem run_4_2 (b : Nat) (h0 : Nat → Option Obj) : run 4 2 fs b h0 = true := by kernel_rfl
theorem run_4_3 (b : Nat) (h0 : Nat → Option Obj) : run 4 3 fs b h0 = true := by kernel_rfl
theorem run_4_4 (b : Nat) (h0 : Nat → Option Obj) : run 4 4 fs b h0 = true := by kernel_rfl
theorem run_4_5 (b : Nat) (h0 : Nat → Option Obj) : run 4 5 fs b h0 = true := by kernel_rfl
theorem run_4_6 (b : Nat) (h0 : Nat → Option Obj) : run 4 6 fs b h0 = true := by kernel_rfl
end Go.Proofs.YteehdbbohjhnoaaGreatDoor.MachMoves
