/-
  Layer 06: a loop that counts down tells what it counted: part 1.
-/
import Derived.Test.YtggonamheakkkaaGreatDoorCntKP
namespace Go.Proofs.YtggonamheakkkaaGreatDoor.CntK
open Go.Xq Go.Proofs.YtggonamheakkkaaGreatDoor
set_option maxRecDepth 1000000
theorem run1 (b : Nat) (h0 : Nat → Option Obj) : partFX (cx1 b h0) 3000 p1 = true := by kernel_rfl
end Go.Proofs.YtggonamheakkkaaGreatDoor.CntK
