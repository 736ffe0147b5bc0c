/-
  Layer 06: a loop that counts down tells what it counted: part 0.
-/
import Derived.Test.YtggonamheakkkaaGreatDoorCntKP
namespace Go.Proofs.YtggonamheakkkaaGreatDoor.CntK
open Go.Xq Go.Proofs.YtggonamheakkkaaGreatDoor
set_option maxRecDepth 1000000
theorem run0 (b : Nat) (h0 : Nat → Option Obj) : partFX (cx0 b h0) 3000 p0 = true := by kernel_rfl
end Go.Proofs.YtggonamheakkkaaGreatDoor.CntK
