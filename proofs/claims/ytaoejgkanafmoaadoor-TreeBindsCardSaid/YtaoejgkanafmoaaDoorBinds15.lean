/-
  Layer 03: what binds more strongly needs no parentheses: runs, part 15.
-/
import Derived.Test.YtaoejgkanafmoaaDoorBinds
namespace Go.Proofs.YtaoejgkanafmoaaDoor.TreeBinds
open Go.Xq Go.Proofs.YtaoejgkanafmoaaDoor
set_option maxRecDepth 1000000
theorem run_15_0 (b : Nat) (h0 : Nat → Option Obj) : run 15 0 [] b h0 = true := by kernel_rfl
theorem run_15_1 (b : Nat) (h0 : Nat → Option Obj) : run 15 1 [] b h0 = true := by kernel_rfl
theorem run_15_2 (b : Nat) (h0 : Nat → Option Obj) : run 15 2 [] b h0 = true := by kernel_rfl
theorem run_15_3 (b : Nat) (h0 : Nat → Option Obj) : run 15 3 [] b h0 = true := by kernel_rfl
theorem run_15_4 (b : Nat) (h0 : Nat → Option Obj) : run 15 4 [] b h0 = true := by kernel_rfl
theorem run_15_5 (b : Nat) (h0 : Nat → Option Obj) : run 15 5 [] b h0 = true := by kernel_rfl
theorem run_15_6 (b : Nat) (h0 : Nat → Option Obj) : run 15 6 [] b h0 = true := by kernel_rfl
theorem run_15_7 (b : Nat) (h0 : Nat → Option Obj) : run 15 7 [] b h0 = true := by kernel_rfl
theorem run_15_8 (b : Nat) (h0 : Nat → Option Obj) : run 15 8 [] b h0 = true := by kernel_rfl
theorem run_15_9 (b : Nat) (h0 : Nat → Option Obj) : run 15 9 [] b h0 = true := by kernel_rfl
theorem run_15_10 (b : Nat) (h0 : Nat → Option Obj) : run 15 10 [] b h0 = true := by kernel_rfl
theorem run_15_11 (b : Nat) (h0 : Nat → Option Obj) : run 15 11 [] b h0 = true := by kernel_rfl
theorem run_15_12 (b : Nat) (h0 : Nat → Option Obj) : run 15 12 [] b h0 = true := by kernel_rfl
theorem run_15_13 (b : Nat) (h0 : Nat → Option Obj) : run 15 13 [] b h0 = true := by kernel_rfl
theorem run_15_14 (b : Nat) (h0 : Nat → Option Obj) : run 15 14 [] b h0 = true := by kernel_rfl
theorem run_15_15 (b : Nat) (h0 : Nat → Option Obj) : run 15 15 [] b h0 = true := by kernel_rfl
end Go.Proofs.YtaoejgkanafmoaaDoor.TreeBinds
