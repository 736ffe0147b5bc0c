/-
  Layer 09: instructions of registers make what operators make: runs, part 0.
-/
import Derived.Test.YteehdbbohjhnoaaGreatDoorOps
namespace Go.Proofs.YteehdbbohjhnoaaGreatDoor.MachOps
open Go.Xq Go.Proofs.YteehdbbohjhnoaaGreatDoor
set_option maxRecDepth 1000000
theorem run_0 (b : Nat) (h0 : Nat → Option Obj) : run 0 [] b h0 = true := by kernel_rfl
theorem run_1 (b : Nat) (h0 : Nat → Option Obj) : run 1 [] b h0 = true := by kernel_rfl
theorem run_2 (b : Nat) (h0 : Nat → Option Obj) : run 2 [] b h0 = true := by kernel_rfl
theorem run_3_t (b : Nat) (h0 : Nat → Option Obj) : run 3 [⟨.eql, .var 2, .lit 0, true⟩] b h0 = true := by kernel_rfl
theorem run_3_f (b : Nat) (h0 : Nat → Option Obj) : run 3 [⟨.eql, .var 2, .lit 0, false⟩] b h0 = true := by kernel_rfl
theorem run_4_t (b : Nat) (h0 : Nat → Option Obj) : run 4 [⟨.eql, .var 2, .lit 0, true⟩] b h0 = true := by kernel_rfl
theorem run_4_f (b : Nat) (h0 : Nat → Option Obj) : run 4 [⟨.eql, .var 2, .lit 0, false⟩] b h0 = true := by kernel_rfl
end Go.Proofs.YteehdbbohjhnoaaGreatDoor.MachOps
