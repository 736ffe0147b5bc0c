/-
  Layer 06: numbers that are printed are told: runs, part 3.
-/
import Derived.Test.YtggonamheakkkaaGreatDoorPrints
namespace Go.Proofs.YtggonamheakkkaaGreatDoor.EvalPrints
open Go.Xq Go.Proofs.YtggonamheakkkaaGreatDoor
set_option maxRecDepth 1000000
theorem run_7 (b : Nat) (h0 : Nat → Option Obj) : run f7 b h0 = true := by kernel_rfl
theorem run_8 (b : Nat) (h0 : Nat → Option Obj) : run f8 b h0 = true := by kernel_rfl
theorem run_9 (b : Nat) (h0 : Nat → Option Obj) : run f9 b h0 = true := by kernel_rfl
theorem run_10 (b : Nat) (h0 : Nat → Option Obj) : run f10 b h0 = true := by kernel_rfl
theorem run_11 (b : Nat) (h0 : Nat → Option Obj) : run f11 b h0 = true := by kernel_rfl
theorem run_12 (b : Nat) (h0 : Nat → Option Obj) : run f12 b h0 = true := by kernel_rfl
theorem run_13 (b : Nat) (h0 : Nat → Option Obj) : run f13 b h0 = true := by kernel_rfl
end Go.Proofs.YtggonamheakkkaaGreatDoor.EvalPrints
