/-
  Layer 06: what was stored is told, at its place and nowhere else: runs, part 1.
-/
import Derived.Test.YtggonamheakkkaaGreatDoorArr
namespace Go.Proofs.YtggonamheakkkaaGreatDoor.EvalArrays
open Go.Xq Go.Proofs.YtggonamheakkkaaGreatDoor
set_option maxRecDepth 1000000
theorem run_5_5 (b : Nat) (h0 : Nat → Option Obj) : run 5 (.lit 5) [] b h0 = true := by kernel_rfl
theorem run_5_6 (b : Nat) (h0 : Nat → Option Obj) : run 5 (.lit 6) [] b h0 = true := by kernel_rfl
theorem run_5_7 (b : Nat) (h0 : Nat → Option Obj) : run 5 (.lit 7) [] b h0 = true := by kernel_rfl
theorem run_5_8 (b : Nat) (h0 : Nat → Option Obj) : run 5 (.lit 8) [] b h0 = true := by kernel_rfl
theorem run_5_9 (b : Nat) (h0 : Nat → Option Obj) : run 5 (.lit 9) [] b h0 = true := by kernel_rfl
theorem run_6_0 (b : Nat) (h0 : Nat → Option Obj) : run 6 (.lit 0) [] b h0 = true := by kernel_rfl
theorem run_6_1 (b : Nat) (h0 : Nat → Option Obj) : run 6 (.lit 1) [] b h0 = true := by kernel_rfl
theorem run_6_2 (b : Nat) (h0 : Nat → Option Obj) : run 6 (.lit 2) [] b h0 = true := by kernel_rfl
theorem run_6_3 (b : Nat) (h0 : Nat → Option Obj) : run 6 (.lit 3) [] b h0 = true := by kernel_rfl
theorem run_6_4 (b : Nat) (h0 : Nat → Option Obj) : run 6 (.lit 4) [] b h0 = true := by kernel_rfl
theorem run_6_5 (b : Nat) (h0 : Nat → Option Obj) : run 6 (.lit 5) [] b h0 = true := by kernel_rfl
theorem run_6_6 (b : Nat) (h0 : Nat → Option Obj) : run 6 (.lit 6) [] b h0 = true := by kernel_rfl
theorem run_6_7 (b : Nat) (h0 : Nat → Option Obj) : run 6 (.lit 7) [] b h0 = true := by kernel_rfl
theorem run_6_8 (b : Nat) (h0 : Nat → Option Obj) : run 6 (.lit 8) [] b h0 = true := by kernel_rfl
theorem run_6_9 (b : Nat) (h0 : Nat → Option Obj) : run 6 (.lit 9) [] b h0 = true := by kernel_rfl
theorem run_7_0 (b : Nat) (h0 : Nat → Option Obj) : run 7 (.lit 0) [] b h0 = true := by kernel_rfl
theorem run_7_1 (b : Nat) (h0 : Nat → Option Obj) : run 7 (.lit 1) [] b h0 = true := by kernel_rfl
theorem run_7_2 (b : Nat) (h0 : Nat → Option Obj) : run 7 (.lit 2) [] b h0 = true := by kernel_rfl
theorem run_7_3 (b : Nat) (h0 : Nat → Option Obj) : run 7 (.lit 3) [] b h0 = true := by kernel_rfl
theorem run_7_4 (b : Nat) (h0 : Nat → Option Obj) : run 7 (.lit 4) [] b h0 = true := by kernel_rfl
theorem run_7_5 (b : Nat) (h0 : Nat → Option Obj) : run 7 (.lit 5) [] b h0 = true := by kernel_rfl
theorem run_7_6 (b : Nat) (h0 : Nat → Option Obj) : run 7 (.lit 6) [] b h0 = true := by kernel_rfl
theorem run_7_7 (b : Nat) (h0 : Nat → Option Obj) : run 7 (.lit 7) [] b h0 = true := by kernel_rfl
theorem run_7_8 (b : Nat) (h0 : Nat → Option Obj) : run 7 (.lit 8) [] b h0 = true := by kernel_rfl
theorem run_7_9 (b : Nat) (h0 : Nat → Option Obj) : run 7 (.lit 9) [] b h0 = true := by kernel_rfl
theorem run_8_0 (b : Nat) (h0 : Nat → Option Obj) : run 8 (.lit 0) [] b h0 = true := by kernel_rfl
theorem run_8_1 (b : Nat) (h0 : Nat → Option Obj) : run 8 (.lit 1) [] b h0 = true := by kernel_rfl
theorem run_8_2 (b : Nat) (h0 : Nat → Option Obj) : run 8 (.lit 2) [] b h0 = true := by kernel_rfl
theorem run_8_3 (b : Nat) (h0 : Nat → Option Obj) : run 8 (.lit 3) [] b h0 = true := by kernel_rfl
theorem run_8_4 (b : Nat) (h0 : Nat → Option Obj) : run 8 (.lit 4) [] b h0 = true := by kernel_rfl
theorem run_8_5 (b : Nat) (h0 : Nat → Option Obj) : run 8 (.lit 5) [] b h0 = true := by kernel_rfl
theorem run_8_6 (b : Nat) (h0 : Nat → Option Obj) : run 8 (.lit 6) [] b h0 = true := by kernel_rfl
theorem run_8_7 (b : Nat) (h0 : Nat → Option Obj) : run 8 (.lit 7) [] b h0 = true := by kernel_rfl
theorem run_8_8 (b : Nat) (h0 : Nat → Option Obj) : run 8 (.lit 8) [] b h0 = true := by kernel_rfl
theorem run_8_9 (b : Nat) (h0 : Nat → Option Obj) : run 8 (.lit 9) [] b h0 = true := by kernel_rfl
end Go.Proofs.YtggonamheakkkaaGreatDoor.EvalArrays
