/-
  Layer 09: a place that is none, and the like, are faults: runs, part 0.
-/
import Derived.Test.YteehdbbohjhnoaaGreatDoorFaults
namespace Go.Proofs.YteehdbbohjhnoaaGreatDoor.MachFaults
open Go.Xq Go.Proofs.YteehdbbohjhnoaaGreatDoor
set_option maxRecDepth 1000000
theorem run_0 (b : Nat) (h0 : Nat → Option Obj) : run (.var 2) 0 [⟨.neq, .bin .rem .i64 (.bin .add .i64 (.bin .add .i64 (.lit 65616) (.bin .mul .i64 (.lit 8) (.var 2))) (.lit 0)) (.lit 8), .lit 0, false⟩, ⟨.geq, .bin .add .i64 (.bin .add .i64 (.lit 65616) (.bin .mul .i64 (.lit 8) (.var 2))) (.lit 0), .lit 65536, true⟩, ⟨.lss, .bin .add .i64 (.bin .add .i64 (.lit 65616) (.bin .mul .i64 (.lit 8) (.var 2))) (.lit 0), .lit 65616, false⟩, ⟨.geq, .bin .add .i64 (.bin .add .i64 (.lit 65616) (.bin .mul .i64 (.lit 8) (.var 2))) (.lit 0), .lit 1073709056, false⟩] b h0 = true := by kernel_rfl
theorem run_1 (b : Nat) (h0 : Nat → Option Obj) : run (.var 2) 1 [⟨.geq, .bin .add .i64 (.lit 1) (.bin .rem .i64 (.var 2) (.lit 7)), .lit (-2047), true⟩, ⟨.leq, .bin .add .i64 (.lit 1) (.bin .rem .i64 (.var 2) (.lit 7)), .lit 2047, true⟩, ⟨.neq, .bin .rem .i64 (.bin .add .i64 (.lit 65536) (.bin .add .i64 (.lit 1) (.bin .rem .i64 (.var 2) (.lit 7)))) (.lit 8), .lit 0, true⟩] b h0 = true := by kernel_rfl
theorem run_2 (b : Nat) (h0 : Nat → Option Obj) : run (.var 2) 2 [⟨.eql, .bin .add .i64 (.lit 6) (.var 2), .lit 1, false⟩, ⟨.eql, .bin .add .i64 (.lit 6) (.var 2), .lit 2, false⟩, ⟨.eql, .bin .add .i64 (.lit 6) (.var 2), .lit 3, false⟩, ⟨.eql, .bin .add .i64 (.lit 6) (.var 2), .lit 4, false⟩, ⟨.eql, .bin .add .i64 (.lit 6) (.var 2), .lit 5, false⟩] b h0 = true := by kernel_rfl
theorem run_3a (b : Nat) (h0 : Nat → Option Obj) : run (.var 2) 3 [⟨.neq, .bin .rem .i64 (.var 2) (.lit 4), .lit 0, true⟩] b h0 = true := by kernel_rfl
theorem run_3b (b : Nat) (h0 : Nat → Option Obj) : run (.lit 0) 3 [] b h0 = true := by kernel_rfl
end Go.Proofs.YteehdbbohjhnoaaGreatDoor.MachFaults
