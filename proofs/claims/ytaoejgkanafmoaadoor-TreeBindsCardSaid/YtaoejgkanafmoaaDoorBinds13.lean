/-
  Layer 03: what binds more strongly needs no parentheses: runs, part 13.
-/
import Derived.Test.YtaoejgkanafmoaaDoorBinds
namespace Go.Proofs.YtaoejgkanafmoaaDoor.TreeBinds
open Go.Xq Go.Proofs.YtaoejgkanafmoaaDoor
set_option maxRecDepth 1000000
theorem run_13_0 (b : Nat) (h0 : Nat → Option Obj) : run 13 0 [] b h0 = true := by kernel_rfl
theorem run_13_1 (b : Nat) (h0 : Nat → Option Obj) : run 13 1 [] b h0 = true := by kernel_rfl
theorem run_13_2 (b : Nat) (h0 : Nat → Option Obj) : run 13 2 [] b h0 = true := by kernel_rfl
theorem run_13_3 (b : Nat) (h0 : Nat → Option Obj) : run 13 3 [] b h0 = true := by kernel_rfl
theorem run_13_4 (b : Nat) (h0 : Nat → Option Obj) : run 13 4 [] b h0 = true := by kernel_rfl
theorem run_13_5 (b : Nat) (h0 : Nat → Option Obj) : run 13 5 [] b h0 = true := by kernel_rfl
theorem run_13_6 (b : Nat) (h0 : Nat → Option Obj) : run 13 6 [] b h0 = true := by kernel_rfl
theorem run_13_7 (b : Nat) (h0 : Nat → Option Obj) : run 13 7 [] b h0 = true := by kernel_rfl
theorem run_13_8 (b : Nat) (h0 : Nat → Option Obj) : run 13 8 [] b h0 = true := by kernel_rfl
theorem run_13_9 (b : Nat) (h0 : Nat → Option Obj) : run 13 9 [] b h0 = true := by kernel_rfl
theorem run_13_10 (b : Nat) (h0 : Nat → Option Obj) : run 13 10 [] b h0 = true := by kernel_rfl
theorem run_13_11 (b : Nat) (h0 : Nat → Option Obj) : run 13 11 [] b h0 = true := by kernel_rfl
theorem run_13_12 (b : Nat) (h0 : Nat → Option Obj) : run 13 12 [] b h0 = true := by kernel_rfl
theorem run_13_13 (b : Nat) (h0 : Nat → Option Obj) : run 13 13 [] b h0 = true := by kernel_rfl
theorem run_13_14 (b : Nat) (h0 : Nat → Option Obj) : run 13 14 [] b h0 = true := by kernel_rfl
theorem run_13_15 (b : Nat) (h0 : Nat → Option Obj) : run 13 15 [] b h0 = true := by kernel_rfl
end Go.Proofs.YtaoejgkanafmoaaDoor.TreeBinds
