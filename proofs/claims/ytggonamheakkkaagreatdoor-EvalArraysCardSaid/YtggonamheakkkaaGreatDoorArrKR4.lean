/-
  Layer 06: what was stored is told, at its place and nowhere else: part 4.
-/
import Derived.Test.YtggonamheakkkaaGreatDoorArrKP
namespace Go.Proofs.YtggonamheakkkaaGreatDoor.ArrK
open Go.Xq Go.Proofs.YtggonamheakkkaaGreatDoor
set_option maxRecDepth 1000000
theorem run4 (b : Nat) (h0 : Nat → Option Obj) : partFX (cx4 b h0) 3000 p4 = true := by kernel_rfl
end Go.Proofs.YtggonamheakkkaaGreatDoor.ArrK
