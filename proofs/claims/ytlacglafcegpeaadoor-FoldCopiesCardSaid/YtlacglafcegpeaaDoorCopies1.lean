/-
  Layer 14: what is moved on and on: value 1.
-/
import Derived.Test.YtlacglafcegpeaaDoorCopies
namespace Go.Proofs.YtlacglafcegpeaaDoor
set_option maxRecDepth 1000000
theorem copy_1_0_true (b : Nat) (h0 : Nat → Option Obj) : copyRun 1 0 true b h0 = true := by kernel_rfl
theorem copy_1_0_false (b : Nat) (h0 : Nat → Option Obj) : copyRun 1 0 false b h0 = true := by kernel_rfl
theorem copy_1_1_true (b : Nat) (h0 : Nat → Option Obj) : copyRun 1 1 true b h0 = true := by kernel_rfl
theorem copy_1_1_false (b : Nat) (h0 : Nat → Option Obj) : copyRun 1 1 false b h0 = true := by kernel_rfl
theorem copy_1_2_true (b : Nat) (h0 : Nat → Option Obj) : copyRun 1 2 true b h0 = true := by kernel_rfl
theorem copy_1_2_false (b : Nat) (h0 : Nat → Option Obj) : copyRun 1 2 false b h0 = true := by kernel_rfl
theorem copy_1_3_true (b : Nat) (h0 : Nat → Option Obj) : copyRun 1 3 true b h0 = true := by kernel_rfl
theorem copy_1_3_false (b : Nat) (h0 : Nat → Option Obj) : copyRun 1 3 false b h0 = true := by kernel_rfl
theorem copy_1_4_true (b : Nat) (h0 : Nat → Option Obj) : copyRun 1 4 true b h0 = true := by kernel_rfl
theorem copy_1_4_false (b : Nat) (h0 : Nat → Option Obj) : copyRun 1 4 false b h0 = true := by kernel_rfl
theorem copy_1_5_true (b : Nat) (h0 : Nat → Option Obj) : copyRun 1 5 true b h0 = true := by kernel_rfl
theorem copy_1_5_false (b : Nat) (h0 : Nat → Option Obj) : copyRun 1 5 false b h0 = true := by kernel_rfl
theorem copies_1 {q : Int} (h0 : 0 ≤ q) (h1 : q < 6) (s : Bool) (b : Nat) (hp : Nat → Option Obj) : copyRun 1 q s b hp = true := by
  have h : q = 0 ∨ q = 1 ∨ q = 2 ∨ q = 3 ∨ q = 4 ∨ q = 5 := by omega
  cases s
  · rcases h with rfl | rfl | rfl | rfl | rfl | rfl
    · exact copy_1_0_false b hp
    · exact copy_1_1_false b hp
    · exact copy_1_2_false b hp
    · exact copy_1_3_false b hp
    · exact copy_1_4_false b hp
    · exact copy_1_5_false b hp
  · rcases h with rfl | rfl | rfl | rfl | rfl | rfl
    · exact copy_1_0_true b hp
    · exact copy_1_1_true b hp
    · exact copy_1_2_true b hp
    · exact copy_1_3_true b hp
    · exact copy_1_4_true b hp
    · exact copy_1_5_true b hp
end Go.Proofs.YtlacglafcegpeaaDoor
