/-
  Layer 06: numbers that are printed are told: runs, part 2.
-/
import Derived.Test.YtggonamheakkkaaGreatDoorPrints
namespace Go.Proofs.YtggonamheakkkaaGreatDoor.EvalPrints
open Go.Xq Go.Proofs.YtggonamheakkkaaGreatDoor
set_option maxRecDepth 1000000
theorem run_3 (b : Nat) (h0 : Nat → Option Obj) : run f3 b h0 = true := by kernel_rfl
theorem run_4 (b : Nat) (h0 : Nat → Option Obj) : run f4 b h0 = true := by kernel_rfl
theorem run_5 (b : Nat) (h0 : Nat → Option Obj) : run f5 b h0 = true := by kernel_rfl
theorem run_6 (b : Nat) (h0 : Nat → Option Obj) : run f6 b h0 = true := by kernel_rfl
theorem run_14 (b : Nat) (h0 : Nat → Option Obj) : run f14 b h0 = true := by kernel_rfl
theorem run_15 (b : Nat) (h0 : Nat → Option Obj) : run f15 b h0 = true := by kernel_rfl
theorem run_16 (b : Nat) (h0 : Nat → Option Obj) : run f16 b h0 = true := by kernel_rfl
end Go.Proofs.YtggonamheakkkaaGreatDoor.EvalPrints
