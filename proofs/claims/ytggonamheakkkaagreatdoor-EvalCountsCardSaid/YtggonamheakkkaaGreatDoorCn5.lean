/-
  Layer 06: a loop that counts down tells what it counted: runs, part 5.
-/
import Derived.Test.YtggonamheakkkaaGreatDoorCn
namespace Go.Proofs.YtggonamheakkkaaGreatDoor.EvalCounts
open Go.Xq Go.Proofs.YtggonamheakkkaaGreatDoor
set_option maxRecDepth 1000000
theorem run_7 (b : Nat) (h0 : Nat → Option Obj) : run (.lit 7) fR b h0 = true := by kernel_rfl
theorem run_8 (b : Nat) (h0 : Nat → Option Obj) : run (.lit 8) fR b h0 = true := by kernel_rfl
theorem run_19 (b : Nat) (h0 : Nat → Option Obj) : run (.lit 19) fR b h0 = true := by kernel_rfl
theorem run_20 (b : Nat) (h0 : Nat → Option Obj) : run (.lit 20) fR b h0 = true := by kernel_rfl
theorem run_31 (b : Nat) (h0 : Nat → Option Obj) : run (.lit 31) fR b h0 = true := by kernel_rfl
theorem run_32 (b : Nat) (h0 : Nat → Option Obj) : run (.lit 32) fR b h0 = true := by kernel_rfl
theorem run_43 (b : Nat) (h0 : Nat → Option Obj) : run (.lit 43) fR b h0 = true := by kernel_rfl
theorem run_44 (b : Nat) (h0 : Nat → Option Obj) : run (.lit 44) fR b h0 = true := by kernel_rfl
end Go.Proofs.YtggonamheakkkaaGreatDoor.EvalCounts
