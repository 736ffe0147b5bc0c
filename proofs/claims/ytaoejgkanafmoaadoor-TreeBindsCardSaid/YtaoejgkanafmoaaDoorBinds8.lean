/-
  Layer 03: what binds more strongly needs no parentheses: runs, part 8.
-/
import Derived.Test.YtaoejgkanafmoaaDoorBinds
namespace Go.Proofs.YtaoejgkanafmoaaDoor.TreeBinds
open Go.Xq Go.Proofs.YtaoejgkanafmoaaDoor
set_option maxRecDepth 1000000
theorem run_8_0 (b : Nat) (h0 : Nat → Option Obj) : run 8 0 [] b h0 = true := by kernel_rfl
theorem run_8_1 (b : Nat) (h0 : Nat → Option Obj) : run 8 1 [] b h0 = true := by kernel_rfl
theorem run_8_2 (b : Nat) (h0 : Nat → Option Obj) : run 8 2 [] b h0 = true := by kernel_rfl
theorem run_8_3 (b : Nat) (h0 : Nat → Option Obj) : run 8 3 [] b h0 = true := by kernel_rfl
theorem run_8_4 (b : Nat) (h0 : Nat → Option Obj) : run 8 4 [] b h0 = true := by kernel_rfl
theorem run_8_5 (b : Nat) (h0 : Nat → Option Obj) : run 8 5 [] b h0 = true := by kernel_rfl
theorem run_8_6 (b : Nat) (h0 : Nat → Option Obj) : run 8 6 [] b h0 = true := by kernel_rfl
theorem run_8_7 (b : Nat) (h0 : Nat → Option Obj) : run 8 7 [] b h0 = true := by kernel_rfl
theorem run_8_8 (b : Nat) (h0 : Nat → Option Obj) : run 8 8 [] b h0 = true := by kernel_rfl
theorem run_8_9 (b : Nat) (h0 : Nat → Option Obj) : run 8 9 [] b h0 = true := by kernel_rfl
theorem run_8_10 (b : Nat) (h0 : Nat → Option Obj) : run 8 10 [] b h0 = true := by kernel_rfl
theorem run_8_11 (b : Nat) (h0 : Nat → Option Obj) : run 8 11 [] b h0 = true := by kernel_rfl
theorem run_8_12 (b : Nat) (h0 : Nat → Option Obj) : run 8 12 [] b h0 = true := by kernel_rfl
theorem run_8_13 (b : Nat) (h0 : Nat → Option Obj) : run 8 13 [] b h0 = true := by kernel_rfl
theorem run_8_14 (b : Nat) (h0 : Nat → Option Obj) : run 8 14 [] b h0 = true := by kernel_rfl
theorem run_8_15 (b : Nat) (h0 : Nat → Option Obj) : run 8 15 [] b h0 = true := by kernel_rfl
end Go.Proofs.YtaoejgkanafmoaaDoor.TreeBinds
