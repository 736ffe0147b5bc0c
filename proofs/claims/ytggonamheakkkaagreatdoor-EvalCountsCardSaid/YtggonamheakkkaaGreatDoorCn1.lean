/-
  Layer 06: a loop that counts down tells what it counted: runs, part 1.
-/
import Derived.Test.YtggonamheakkkaaGreatDoorCn
namespace Go.Proofs.YtggonamheakkkaaGreatDoor.EvalCounts
open Go.Xq Go.Proofs.YtggonamheakkkaaGreatDoor
set_option maxRecDepth 1000000
theorem run_0 (b : Nat) (h0 : Nat → Option Obj) : run (.lit 0) fR b h0 = true := by kernel_rfl
theorem run_3 (b : Nat) (h0 : Nat → Option Obj) : run (.lit 3) fR b h0 = true := by kernel_rfl
theorem run_12 (b : Nat) (h0 : Nat → Option Obj) : run (.lit 12) fR b h0 = true := by kernel_rfl
theorem run_15 (b : Nat) (h0 : Nat → Option Obj) : run (.lit 15) fR b h0 = true := by kernel_rfl
theorem run_24 (b : Nat) (h0 : Nat → Option Obj) : run (.lit 24) fR b h0 = true := by kernel_rfl
theorem run_27 (b : Nat) (h0 : Nat → Option Obj) : run (.lit 27) fR b h0 = true := by kernel_rfl
theorem run_36 (b : Nat) (h0 : Nat → Option Obj) : run (.lit 36) fR b h0 = true := by kernel_rfl
theorem run_39 (b : Nat) (h0 : Nat → Option Obj) : run (.lit 39) fR b h0 = true := by kernel_rfl
theorem run_48 (b : Nat) (h0 : Nat → Option Obj) : run (.lit 48) fR b h0 = true := by kernel_rfl
end Go.Proofs.YtggonamheakkkaaGreatDoor.EvalCounts
