/-
  Layer 06: a loop that counts down tells what it counted: part 3.
-/
import Derived.Test.YtggonamheakkkaaGreatDoorCntKP
namespace Go.Proofs.YtggonamheakkkaaGreatDoor.CntK
open Go.Xq Go.Proofs.YtggonamheakkkaaGreatDoor
set_option maxRecDepth 1000000
theorem run3 (b : Nat) (h0 : Nat → Option Obj) : partFX (cx3 b h0) 3000 p3 = true := by kernel_rfl
end Go.Proofs.YtggonamheakkkaaGreatDoor.CntK
