/-
  Layer 06: a loop that counts down tells what it counted: runs, part 2.
-/
import Derived.Test.YtggonamheakkkaaGreatDoorCn
namespace Go.Proofs.YtggonamheakkkaaGreatDoor.EvalCounts
open Go.Xq Go.Proofs.YtggonamheakkkaaGreatDoor
set_option maxRecDepth 1000000
theorem run_4 (b : Nat) (h0 : Nat → Option Obj) : run (.lit 4) fR b h0 = true := by kernel_rfl
theorem run_11 (b : Nat) (h0 : Nat → Option Obj) : run (.lit 11) fR b h0 = true := by kernel_rfl
theorem run_16 (b : Nat) (h0 : Nat → Option Obj) : run (.lit 16) fR b h0 = true := by kernel_rfl
theorem run_23 (b : Nat) (h0 : Nat → Option Obj) : run (.lit 23) fR b h0 = true := by kernel_rfl
theorem run_28 (b : Nat) (h0 : Nat → Option Obj) : run (.lit 28) fR b h0 = true := by kernel_rfl
theorem run_35 (b : Nat) (h0 : Nat → Option Obj) : run (.lit 35) fR b h0 = true := by kernel_rfl
theorem run_40 (b : Nat) (h0 : Nat → Option Obj) : run (.lit 40) fR b h0 = true := by kernel_rfl
theorem run_47 (b : Nat) (h0 : Nat → Option Obj) : run (.lit 47) fR b h0 = true := by kernel_rfl
end Go.Proofs.YtggonamheakkkaaGreatDoor.EvalCounts
