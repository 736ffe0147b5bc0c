/-
  Layer 06: numbers that are printed are told: runs, part 1.
-/
import Derived.Test.YtggonamheakkkaaGreatDoorPrints
namespace Go.Proofs.YtggonamheakkkaaGreatDoor.EvalPrints
open Go.Xq Go.Proofs.YtggonamheakkkaaGreatDoor
set_option maxRecDepth 1000000
theorem run_2 (b : Nat) (h0 : Nat → Option Obj) : run f2 b h0 = true := by kernel_rfl
theorem run_17 (b : Nat) (h0 : Nat → Option Obj) : run f17 b h0 = true := by kernel_rfl
theorem run_18 (b : Nat) (h0 : Nat → Option Obj) : run f18 b h0 = true := by kernel_rfl
theorem run_19 (b : Nat) (h0 : Nat → Option Obj) : run f19 b h0 = true := by kernel_rfl
end Go.Proofs.YtggonamheakkkaaGreatDoor.EvalPrints
