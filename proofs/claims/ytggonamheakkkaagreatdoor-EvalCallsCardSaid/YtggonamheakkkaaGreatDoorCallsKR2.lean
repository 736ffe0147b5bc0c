/-
  Layer 06: a function has what it is called with: part 2.
-/
import Derived.Test.YtggonamheakkkaaGreatDoorCallsKP
namespace Go.Proofs.YtggonamheakkkaaGreatDoor.CallsK
open Go.Xq Go.Proofs.YtggonamheakkkaaGreatDoor
set_option maxRecDepth 1000000
theorem run2 (b : Nat) (h0 : Nat → Option Obj) : partFX (cx2 b h0) 3000 p2 = true := by kernel_rfl
end Go.Proofs.YtggonamheakkkaaGreatDoor.CallsK
