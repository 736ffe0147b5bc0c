/-
  Layer 03: what binds more strongly needs no parentheses: runs, part 14.
-/
import Derived.Test.YtaoejgkanafmoaaDoorBinds
namespace Go.Proofs.YtaoejgkanafmoaaDoor.TreeBinds
open Go.Xq Go.Proofs.YtaoejgkanafmoaaDoor
set_option maxRecDepth 1000000
theorem run_14_0 (b : Nat) (h0 : Nat → Option Obj) : run 14 0 [] b h0 = true := by kernel_rfl
theorem run_14_1 (b : Nat) (h0 : Nat → Option Obj) : run 14 1 [] b h0 = true := by kernel_rfl
theorem run_14_2 (b : Nat) (h0 : Nat → Option Obj) : run 14 2 [] b h0 = true := by kernel_rfl
theorem run_14_3 (b : Nat) (h0 : Nat → Option Obj) : run 14 3 [] b h0 = true := by kernel_rfl
theorem run_14_4 (b : Nat) (h0 : Nat → Option Obj) : run 14 4 [] b h0 = true := by kernel_rfl
theorem run_14_5 (b : Nat) (h0 : Nat → Option Obj) : run 14 5 [] b h0 = true := by kernel_rfl
theorem run_14_6 (b : Nat) (h0 : Nat → Option Obj) : run 14 6 [] b h0 = true := by kernel_rfl
theorem run_14_7 (b : Nat) (h0 : Nat → Option Obj) : run 14 7 [] b h0 = true := by kernel_rfl
theorem run_14_8 (b : Nat) (h0 : Nat → Option Obj) : run 14 8 [] b h0 = true := by kernel_rfl
theorem run_14_9 (b : Nat) (h0 : Nat → Option Obj) : run 14 9 [] b h0 = true := by kernel_rfl
theorem run_14_10 (b : Nat) (h0 : Nat → Option Obj) : run 14 10 [] b h0 = true := by kernel_rfl
theorem run_14_11 (b : Nat) (h0 : Nat → Option Obj) : run 14 11 [] b h0 = true := by kernel_rfl
theorem run_14_12 (b : Nat) (h0 : Nat → Option Obj) : run 14 12 [] b h0 = true := by kernel_rfl
theorem run_14_13 (b : Nat) (h0 : Nat → Option Obj) : run 14 13 [] b h0 = true := by kernel_rfl
theorem run_14_14 (b : Nat) (h0 : Nat → Option Obj) : run 14 14 [] b h0 = true := by kernel_rfl
theorem run_14_15 (b : Nat) (h0 : Nat → Option Obj) : run 14 15 [] b h0 = true := by kernel_rfl
end Go.Proofs.YtaoejgkanafmoaaDoor.TreeBinds
