/-
  Layer 09: a branch goes just where its numbers are as it says: runs, part 0.
-/
import Derived.Test.YteehdbbohjhnoaaGreatDoorBranch
namespace Go.Proofs.YteehdbbohjhnoaaGreatDoor.MachBranch
open Go.Xq Go.Proofs.YteehdbbohjhnoaaGreatDoor
set_option maxRecDepth 1000000
theorem run_0_l (b : Nat) (h0 : Nat → Option Obj) : run 0 [⟨.eql, .var 0, .var 1, false⟩, ⟨.neq, .var 0, .var 1, true⟩, ⟨.lss, .var 0, .var 1, true⟩, ⟨.geq, .var 0, .var 1, false⟩] b h0 = true := by kernel_rfl
theorem run_0_e (b : Nat) (h0 : Nat → Option Obj) : run 0 [⟨.eql, .var 0, .var 1, true⟩, ⟨.neq, .var 0, .var 1, false⟩, ⟨.lss, .var 0, .var 1, false⟩, ⟨.geq, .var 0, .var 1, true⟩] b h0 = true := by kernel_rfl
theorem run_0_g (b : Nat) (h0 : Nat → Option Obj) : run 0 [⟨.eql, .var 0, .var 1, false⟩, ⟨.neq, .var 0, .var 1, true⟩, ⟨.lss, .var 0, .var 1, false⟩, ⟨.geq, .var 0, .var 1, true⟩] b h0 = true := by kernel_rfl
theorem run_1_l (b : Nat) (h0 : Nat → Option Obj) : run 1 [⟨.eql, .var 0, .var 1, false⟩, ⟨.neq, .var 0, .var 1, true⟩, ⟨.lss, .var 0, .var 1, true⟩, ⟨.geq, .var 0, .var 1, false⟩] b h0 = true := by kernel_rfl
theorem run_1_e (b : Nat) (h0 : Nat → Option Obj) : run 1 [⟨.eql, .var 0, .var 1, true⟩, ⟨.neq, .var 0, .var 1, false⟩, ⟨.lss, .var 0, .var 1, false⟩, ⟨.geq, .var 0, .var 1, true⟩] b h0 = true := by kernel_rfl
theorem run_1_g (b : Nat) (h0 : Nat → Option Obj) : run 1 [⟨.eql, .var 0, .var 1, false⟩, ⟨.neq, .var 0, .var 1, true⟩, ⟨.lss, .var 0, .var 1, false⟩, ⟨.geq, .var 0, .var 1, true⟩] b h0 = true := by kernel_rfl
end Go.Proofs.YteehdbbohjhnoaaGreatDoor.MachBranch
