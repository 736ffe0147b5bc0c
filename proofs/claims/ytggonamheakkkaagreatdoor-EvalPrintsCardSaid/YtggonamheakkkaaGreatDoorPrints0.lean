/-
  Layer 06: numbers that are printed are told: runs, part 0.
-/
import Derived.Test.YtggonamheakkkaaGreatDoorPrints
namespace Go.Proofs.YtggonamheakkkaaGreatDoor.EvalPrints
open Go.Xq Go.Proofs.YtggonamheakkkaaGreatDoor
set_option maxRecDepth 1000000
theorem run_nil (b : Nat) (h0 : Nat → Option Obj) : runn f0 b h0 = true := by kernel_rfl
theorem run_0 (b : Nat) (h0 : Nat → Option Obj) : run f0 b h0 = true := by kernel_rfl
theorem run_1 (b : Nat) (h0 : Nat → Option Obj) : run f1 b h0 = true := by kernel_rfl
theorem run_20 (b : Nat) (h0 : Nat → Option Obj) : run f20 b h0 = true := by kernel_rfl
theorem run_21 (b : Nat) (h0 : Nat → Option Obj) : run f21 b h0 = true := by kernel_rfl
end Go.Proofs.YtggonamheakkkaaGreatDoor.EvalPrints
