/-
  Layer 06: a loop that counts down tells what it counted: runs, part 0.
-/
import Derived.Test.YtggonamheakkkaaGreatDoorCn
namespace Go.Proofs.YtggonamheakkkaaGreatDoor.EvalCounts
open Go.Xq Go.Proofs.YtggonamheakkkaaGreatDoor
set_option maxRecDepth 1000000
theorem run_1 (b : Nat) (h0 : Nat → Option Obj) : run (.lit 1) fR b h0 = true := by kernel_rfl
theorem run_2 (b : Nat) (h0 : Nat → Option Obj) : run (.lit 2) fR b h0 = true := by kernel_rfl
theorem run_13 (b : Nat) (h0 : Nat → Option Obj) : run (.lit 13) fR b h0 = true := by kernel_rfl
theorem run_14 (b : Nat) (h0 : Nat → Option Obj) : run (.lit 14) fR b h0 = true := by kernel_rfl
theorem run_25 (b : Nat) (h0 : Nat → Option Obj) : run (.lit 25) fR b h0 = true := by kernel_rfl
theorem run_26 (b : Nat) (h0 : Nat → Option Obj) : run (.lit 26) fR b h0 = true := by kernel_rfl
theorem run_37 (b : Nat) (h0 : Nat → Option Obj) : run (.lit 37) fR b h0 = true := by kernel_rfl
theorem run_38 (b : Nat) (h0 : Nat → Option Obj) : run (.lit 38) fR b h0 = true := by kernel_rfl
theorem run_deep (b : Nat) (h0 : Nat → Option Obj) : run (.var 3) fD b h0 = true := by kernel_rfl
end Go.Proofs.YtggonamheakkkaaGreatDoor.EvalCounts
