/-
  Layer 06: a loop that counts down tells what it counted: runs, part 4.
-/
import Derived.Test.YtggonamheakkkaaGreatDoorCn
namespace Go.Proofs.YtggonamheakkkaaGreatDoor.EvalCounts
open Go.Xq Go.Proofs.YtggonamheakkkaaGreatDoor
set_option maxRecDepth 1000000
theorem run_6 (b : Nat) (h0 : Nat → Option Obj) : run (.lit 6) fR b h0 = true := by kernel_rfl
theorem run_9 (b : Nat) (h0 : Nat → Option Obj) : run (.lit 9) fR b h0 = true := by kernel_rfl
theorem run_18 (b : Nat) (h0 : Nat → Option Obj) : run (.lit 18) fR b h0 = true := by kernel_rfl
theorem run_21 (b : Nat) (h0 : Nat → Option Obj) : run (.lit 21) fR b h0 = true := by kernel_rfl
theorem run_30 (b : Nat) (h0 : Nat → Option Obj) : run (.lit 30) fR b h0 = true := by kernel_rfl
theorem run_33 (b : Nat) (h0 : Nat → Option Obj) : run (.lit 33) fR b h0 = true := by kernel_rfl
theorem run_42 (b : Nat) (h0 : Nat → Option Obj) : run (.lit 42) fR b h0 = true := by kernel_rfl
theorem run_45 (b : Nat) (h0 : Nat → Option Obj) : run (.lit 45) fR b h0 = true := by kernel_rfl
end Go.Proofs.YtggonamheakkkaaGreatDoor.EvalCounts
