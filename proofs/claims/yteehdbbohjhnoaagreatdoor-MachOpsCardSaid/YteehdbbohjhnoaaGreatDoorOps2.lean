/-
  Layer 09: instructions of registers make what operators make: runs, part 2.
-/
import Derived.Test.YteehdbbohjhnoaaGreatDoorOps
namespace Go.Proofs.YteehdbbohjhnoaaGreatDoor.MachOps
open Go.Xq Go.Proofs.YteehdbbohjhnoaaGreatDoor
set_option maxRecDepth 1000000
theorem run_11_t (b : Nat) (h0 : Nat → Option Obj) : run 11 [⟨.lss, .conv .u64 (.var 1), .conv .u64 (.var 2), true⟩] b h0 = true := by kernel_rfl
theorem run_11_f (b : Nat) (h0 : Nat → Option Obj) : run 11 [⟨.lss, .conv .u64 (.var 1), .conv .u64 (.var 2), false⟩] b h0 = true := by kernel_rfl
theorem run_12_t (b : Nat) (h0 : Nat → Option Obj) : run 12 [⟨.eql, .var 1, .lit 0, true⟩] b h0 = true := by kernel_rfl
theorem run_12_f (b : Nat) (h0 : Nat → Option Obj) : run 12 [⟨.eql, .var 1, .lit 0, false⟩] b h0 = true := by kernel_rfl
theorem run_13_t (b : Nat) (h0 : Nat → Option Obj) : run 13 [⟨.neq, .var 1, .lit 0, true⟩] b h0 = true := by kernel_rfl
theorem run_13_f (b : Nat) (h0 : Nat → Option Obj) : run 13 [⟨.neq, .var 1, .lit 0, false⟩] b h0 = true := by kernel_rfl
theorem run_14 (b : Nat) (h0 : Nat → Option Obj) : run 14 [] b h0 = true := by kernel_rfl
end Go.Proofs.YteehdbbohjhnoaaGreatDoor.MachOps
