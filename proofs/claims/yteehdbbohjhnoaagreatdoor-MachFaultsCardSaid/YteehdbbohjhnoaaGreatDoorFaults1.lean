/-
  Layer 09: a place that is none, and the like, are faults: runs, part 1.
-/
import Derived.Test.YteehdbbohjhnoaaGreatDoorFaults
namespace Go.Proofs.YteehdbbohjhnoaaGreatDoor.MachFaults
open Go.Xq Go.Proofs.YteehdbbohjhnoaaGreatDoor
set_option maxRecDepth 1000000
theorem run_3c (b : Nat) (h0 : Nat → Option Obj) : run (.lit 4) 3 [] b h0 = true := by kernel_rfl
theorem run_3d (b : Nat) (h0 : Nat → Option Obj) : run (.lit 8) 3 [] b h0 = true := by kernel_rfl
theorem run_3e (b : Nat) (h0 : Nat → Option Obj) : run (.var 2) 3 [⟨.neq, .bin .rem .i64 (.var 2) (.lit 4), .lit 0, false⟩, ⟨.lss, .bin .quo .i64 (.var 2) (.lit 4), .lit 1, false⟩, ⟨.gtr, .bin .quo .i64 (.var 2) (.lit 4), .lit 2, true⟩] b h0 = true := by kernel_rfl
theorem run_4 (b : Nat) (h0 : Nat → Option Obj) : run (.var 2) 4 [⟨.eql, .bin .add .i64 (.lit 5) (.var 2), .lit 2, false⟩, ⟨.eql, .bin .add .i64 (.lit 5) (.var 2), .lit 3, false⟩, ⟨.eql, .bin .add .i64 (.lit 5) (.var 2), .lit 4, false⟩] b h0 = true := by kernel_rfl
theorem run_5 (b : Nat) (h0 : Nat → Option Obj) : run (.var 2) 5 [] b h0 = true := by kernel_rfl
end Go.Proofs.YteehdbbohjhnoaaGreatDoor.MachFaults
