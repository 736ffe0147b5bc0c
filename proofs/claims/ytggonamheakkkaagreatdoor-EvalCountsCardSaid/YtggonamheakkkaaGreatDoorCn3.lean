/-
  Layer 06: a loop that counts down tells what it counted: runs, part 3.
-/
import Derived.Test.YtggonamheakkkaaGreatDoorCn
namespace Go.Proofs.YtggonamheakkkaaGreatDoor.EvalCounts
open Go.Xq Go.Proofs.YtggonamheakkkaaGreatDoor
set_option maxRecDepth 1000000
theorem run_5 (b : Nat) (h0 : Nat → Option Obj) : run (.lit 5) fR b h0 = true := by kernel_rfl
theorem run_10 (b : Nat) (h0 : Nat → Option Obj) : run (.lit 10) fR b h0 = true := by kernel_rfl
theorem run_17 (b : Nat) (h0 : Nat → Option Obj) : run (.lit 17) fR b h0 = true := by kernel_rfl
theorem run_22 (b : Nat) (h0 : Nat → Option Obj) : run (.lit 22) fR b h0 = true := by kernel_rfl
theorem run_29 (b : Nat) (h0 : Nat → Option Obj) : run (.lit 29) fR b h0 = true := by kernel_rfl
theorem run_34 (b : Nat) (h0 : Nat → Option Obj) : run (.lit 34) fR b h0 = true := by kernel_rfl
theorem run_41 (b : Nat) (h0 : Nat → Option Obj) : run (.lit 41) fR b h0 = true := by kernel_rfl
theorem run_46 (b : Nat) (h0 : Nat → Option Obj) : run (.lit 46) fR b h0 = true := by kernel_rfl
end Go.Proofs.YtggonamheakkkaaGreatDoor.EvalCounts
