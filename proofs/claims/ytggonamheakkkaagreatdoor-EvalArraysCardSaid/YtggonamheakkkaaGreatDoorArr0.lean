/-
  Layer 06: what was stored is told, at its place and nowhere else: runs, part 0.
-/
import Derived.Test.YtggonamheakkkaaGreatDoorArr
namespace Go.Proofs.YtggonamheakkkaaGreatDoor.EvalArrays
open Go.Xq Go.Proofs.YtggonamheakkkaaGreatDoor
set_option maxRecDepth 1000000
theorem run_2_0 (b : Nat) (h0 : Nat → Option Obj) : run 2 (.lit 0) [] b h0 = true := by kernel_rfl
theorem run_2_1 (b : Nat) (h0 : Nat → Option Obj) : run 2 (.lit 1) [] b h0 = true := by kernel_rfl
theorem run_2_2 (b : Nat) (h0 : Nat → Option Obj) : run 2 (.lit 2) [] b h0 = true := by kernel_rfl
theorem run_2_3 (b : Nat) (h0 : Nat → Option Obj) : run 2 (.lit 3) [] b h0 = true := by kernel_rfl
theorem run_2_4 (b : Nat) (h0 : Nat → Option Obj) : run 2 (.lit 4) [] b h0 = true := by kernel_rfl
theorem run_2_5 (b : Nat) (h0 : Nat → Option Obj) : run 2 (.lit 5) [] b h0 = true := by kernel_rfl
theorem run_2_6 (b : Nat) (h0 : Nat → Option Obj) : run 2 (.lit 6) [] b h0 = true := by kernel_rfl
theorem run_2_7 (b : Nat) (h0 : Nat → Option Obj) : run 2 (.lit 7) [] b h0 = true := by kernel_rfl
theorem run_2_8 (b : Nat) (h0 : Nat → Option Obj) : run 2 (.lit 8) [] b h0 = true := by kernel_rfl
theorem run_2_9 (b : Nat) (h0 : Nat → Option Obj) : run 2 (.lit 9) [] b h0 = true := by kernel_rfl
theorem run_3_0 (b : Nat) (h0 : Nat → Option Obj) : run 3 (.lit 0) [] b h0 = true := by kernel_rfl
theorem run_3_1 (b : Nat) (h0 : Nat → Option Obj) : run 3 (.lit 1) [] b h0 = true := by kernel_rfl
theorem run_3_2 (b : Nat) (h0 : Nat → Option Obj) : run 3 (.lit 2) [] b h0 = true := by kernel_rfl
theorem run_3_3 (b : Nat) (h0 : Nat → Option Obj) : run 3 (.lit 3) [] b h0 = true := by kernel_rfl
theorem run_3_4 (b : Nat) (h0 : Nat → Option Obj) : run 3 (.lit 4) [] b h0 = true := by kernel_rfl
theorem run_3_5 (b : Nat) (h0 : Nat → Option Obj) : run 3 (.lit 5) [] b h0 = true := by kernel_rfl
theorem run_3_6 (b : Nat) (h0 : Nat → Option Obj) : run 3 (.lit 6) [] b h0 = true := by kernel_rfl
theorem run_3_7 (b : Nat) (h0 : Nat → Option Obj) : run 3 (.lit 7) [] b h0 = true := by kernel_rfl
theorem run_3_8 (b : Nat) (h0 : Nat → Option Obj) : run 3 (.lit 8) [] b h0 = true := by kernel_rfl
theorem run_3_9 (b : Nat) (h0 : Nat → Option Obj) : run 3 (.lit 9) [] b h0 = true := by kernel_rfl
theorem run_4_0 (b : Nat) (h0 : Nat → Option Obj) : run 4 (.lit 0) [] b h0 = true := by kernel_rfl
theorem run_4_1 (b : Nat) (h0 : Nat → Option Obj) : run 4 (.lit 1) [] b h0 = true := by kernel_rfl
theorem run_4_2 (b : Nat) (h0 : Nat → Option Obj) : run 4 (.lit 2) [] b h0 = true := by kernel_rfl
theorem run_4_3 (b : Nat) (h0 : Nat → Option Obj) : run 4 (.lit 3) [] b h0 = true := by kernel_rfl
theorem run_4_4 (b : Nat) (h0 : Nat → Option Obj) : run 4 (.lit 4) [] b h0 = true := by kernel_rfl
theorem run_4_5 (b : Nat) (h0 : Nat → Option Obj) : run 4 (.lit 5) [] b h0 = true := by kernel_rfl
theorem run_4_6 (b : Nat) (h0 : Nat → Option Obj) : run 4 (.lit 6) [] b h0 = true := by kernel_rfl
theorem run_4_7 (b : Nat) (h0 : Nat → Option Obj) : run 4 (.lit 7) [] b h0 = true := by kernel_rfl
theorem run_4_8 (b : Nat) (h0 : Nat → Option Obj) : run 4 (.lit 8) [] b h0 = true := by kernel_rfl
theorem run_4_9 (b : Nat) (h0 : Nat → Option Obj) : run 4 (.lit 9) [] b h0 = true := by kernel_rfl
theorem run_5_0 (b : Nat) (h0 : Nat → Option Obj) : run 5 (.lit 0) [] b h0 = true := by kernel_rfl
theorem run_5_1 (b : Nat) (h0 : Nat → Option Obj) : run 5 (.lit 1) [] b h0 = true := by kernel_rfl
theorem run_5_2 (b : Nat) (h0 : Nat → Option Obj) : run 5 (.lit 2) [] b h0 = true := by kernel_rfl
theorem run_5_3 (b : Nat) (h0 : Nat → Option Obj) : run 5 (.lit 3) [] b h0 = true := by kernel_rfl
theorem run_5_4 (b : Nat) (h0 : Nat → Option Obj) : run 5 (.lit 4) [] b h0 = true := by kernel_rfl
end Go.Proofs.YtggonamheakkkaaGreatDoor.EvalArrays
