/-
  Layer 09: instructions of registers make what operators make: runs, part 1.
-/
import Derived.Test.YteehdbbohjhnoaaGreatDoorOps
namespace Go.Proofs.YteehdbbohjhnoaaGreatDoor.MachOps
open Go.Xq Go.Proofs.YteehdbbohjhnoaaGreatDoor
set_option maxRecDepth 1000000
theorem run_5 (b : Nat) (h0 : Nat → Option Obj) : run 5 [] b h0 = true := by kernel_rfl
theorem run_6 (b : Nat) (h0 : Nat → Option Obj) : run 6 [] b h0 = true := by kernel_rfl
theorem run_7 (b : Nat) (h0 : Nat → Option Obj) : run 7 [] b h0 = true := by kernel_rfl
theorem run_8 (b : Nat) (h0 : Nat → Option Obj) : run 8 [] b h0 = true := by kernel_rfl
theorem run_9 (b : Nat) (h0 : Nat → Option Obj) : run 9 [] b h0 = true := by kernel_rfl
theorem run_10_t (b : Nat) (h0 : Nat → Option Obj) : run 10 [⟨.lss, .var 1, .var 2, true⟩] b h0 = true := by kernel_rfl
theorem run_10_f (b : Nat) (h0 : Nat → Option Obj) : run 10 [⟨.lss, .var 1, .var 2, false⟩] b h0 = true := by kernel_rfl
end Go.Proofs.YteehdbbohjhnoaaGreatDoor.MachOps
