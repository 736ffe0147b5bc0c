/-
  Layer 06: what was stored is told, at its place and nowhere else: runs, part 2.
-/
import Derived.Test.YtggonamheakkkaaGreatDoorArr
namespace Go.Proofs.YtggonamheakkkaaGreatDoor.EvalArrays
open Go.Xq Go.Proofs.YtggonamheakkkaaGreatDoor
set_option maxRecDepth 1000000
theorem run_9_0 (b : Nat) (h0 : Nat → Option Obj) : run 9 (.lit 0) [] b h0 = true := by kernel_rfl
theorem run_9_1 (b : Nat) (h0 : Nat → Option Obj) : run 9 (.lit 1) [] b h0 = true := by kernel_rfl
theorem run_9_2 (b : Nat) (h0 : Nat → Option Obj) : run 9 (.lit 2) [] b h0 = true := by kernel_rfl
theorem run_9_3 (b : Nat) (h0 : Nat → Option Obj) : run 9 (.lit 3) [] b h0 = true := by kernel_rfl
theorem run_9_4 (b : Nat) (h0 : Nat → Option Obj) : run 9 (.lit 4) [] b h0 = true := by kernel_rfl
theorem run_9_5 (b : Nat) (h0 : Nat → Option Obj) : run 9 (.lit 5) [] b h0 = true := by kernel_rfl
theorem run_9_6 (b : Nat) (h0 : Nat → Option Obj) : run 9 (.lit 6) [] b h0 = true := by kernel_rfl
theorem run_9_7 (b : Nat) (h0 : Nat → Option Obj) : run 9 (.lit 7) [] b h0 = true := by kernel_rfl
theorem run_9_8 (b : Nat) (h0 : Nat → Option Obj) : run 9 (.lit 8) [] b h0 = true := by kernel_rfl
theorem run_9_9 (b : Nat) (h0 : Nat → Option Obj) : run 9 (.lit 9) [] b h0 = true := by kernel_rfl
theorem run_10_0 (b : Nat) (h0 : Nat → Option Obj) : run 10 (.lit 0) [] b h0 = true := by kernel_rfl
theorem run_10_1 (b : Nat) (h0 : Nat → Option Obj) : run 10 (.lit 1) [] b h0 = true := by kernel_rfl
theorem run_10_2 (b : Nat) (h0 : Nat → Option Obj) : run 10 (.lit 2) [] b h0 = true := by kernel_rfl
theorem run_10_3 (b : Nat) (h0 : Nat → Option Obj) : run 10 (.lit 3) [] b h0 = true := by kernel_rfl
theorem run_10_4 (b : Nat) (h0 : Nat → Option Obj) : run 10 (.lit 4) [] b h0 = true := by kernel_rfl
theorem run_10_5 (b : Nat) (h0 : Nat → Option Obj) : run 10 (.lit 5) [] b h0 = true := by kernel_rfl
theorem run_10_6 (b : Nat) (h0 : Nat → Option Obj) : run 10 (.lit 6) [] b h0 = true := by kernel_rfl
theorem run_10_7 (b : Nat) (h0 : Nat → Option Obj) : run 10 (.lit 7) [] b h0 = true := by kernel_rfl
theorem run_10_8 (b : Nat) (h0 : Nat → Option Obj) : run 10 (.lit 8) [] b h0 = true := by kernel_rfl
theorem run_10_9 (b : Nat) (h0 : Nat → Option Obj) : run 10 (.lit 9) [] b h0 = true := by kernel_rfl
theorem run_11_0 (b : Nat) (h0 : Nat → Option Obj) : run 11 (.lit 0) [] b h0 = true := by kernel_rfl
theorem run_11_1 (b : Nat) (h0 : Nat → Option Obj) : run 11 (.lit 1) [] b h0 = true := by kernel_rfl
theorem run_11_2 (b : Nat) (h0 : Nat → Option Obj) : run 11 (.lit 2) [] b h0 = true := by kernel_rfl
theorem run_11_3 (b : Nat) (h0 : Nat → Option Obj) : run 11 (.lit 3) [] b h0 = true := by kernel_rfl
theorem run_11_4 (b : Nat) (h0 : Nat → Option Obj) : run 11 (.lit 4) [] b h0 = true := by kernel_rfl
theorem run_11_5 (b : Nat) (h0 : Nat → Option Obj) : run 11 (.lit 5) [] b h0 = true := by kernel_rfl
theorem run_11_6 (b : Nat) (h0 : Nat → Option Obj) : run 11 (.lit 6) [] b h0 = true := by kernel_rfl
theorem run_11_7 (b : Nat) (h0 : Nat → Option Obj) : run 11 (.lit 7) [] b h0 = true := by kernel_rfl
theorem run_11_8 (b : Nat) (h0 : Nat → Option Obj) : run 11 (.lit 8) [] b h0 = true := by kernel_rfl
theorem run_11_9 (b : Nat) (h0 : Nat → Option Obj) : run 11 (.lit 9) [] b h0 = true := by kernel_rfl
theorem run_0 (b : Nat) (h0 : Nat → Option Obj) : run 0 (.var 3) [] b h0 = true := by kernel_rfl
theorem run_1 (b : Nat) (h0 : Nat → Option Obj) : run 1 (.var 3) [] b h0 = true := by kernel_rfl
theorem run_12 (b : Nat) (h0 : Nat → Option Obj) : run 12 (.var 3) [] b h0 = true := by kernel_rfl
theorem run_13 (b : Nat) (h0 : Nat → Option Obj) : run 13 (.var 3) [] b h0 = true := by kernel_rfl
end Go.Proofs.YtggonamheakkkaaGreatDoor.EvalArrays
