/-
  Layer 03: what binds more strongly needs no parentheses: runs, part 9.
-/
import Derived.Test.YtaoejgkanafmoaaDoorBinds
namespace Go.Proofs.YtaoejgkanafmoaaDoor.TreeBinds
open Go.Xq Go.Proofs.YtaoejgkanafmoaaDoor
set_option maxRecDepth 1000000
theorem run_9_0 (b : Nat) (h0 : Nat → Option Obj) : run 9 0 [] b h0 = true := by kernel_rfl
theorem run_9_1 (b : Nat) (h0 : Nat → Option Obj) : run 9 1 [] b h0 = true := by kernel_rfl
theorem run_9_2 (b : Nat) (h0 : Nat → Option Obj) : run 9 2 [] b h0 = true := by kernel_rfl
theorem run_9_3 (b : Nat) (h0 : Nat → Option Obj) : run 9 3 [] b h0 = true := by kernel_rfl
theorem run_9_4 (b : Nat) (h0 : Nat → Option Obj) : run 9 4 [] b h0 = true := by kernel_rfl
theorem run_9_5 (b : Nat) (h0 : Nat → Option Obj) : run 9 5 [] b h0 = true := by kernel_rfl
theorem run_9_6 (b : Nat) (h0 : Nat → Option Obj) : run 9 6 [] b h0 = true := by kernel_rfl
theorem run_9_7 (b : Nat) (h0 : Nat → Option Obj) : run 9 7 [] b h0 = true := by kernel_rfl
theorem run_9_8 (b : Nat) (h0 : Nat → Option Obj) : run 9 8 [] b h0 = true := by kernel_rfl
theorem run_9_9 (b : Nat) (h0 : Nat → Option Obj) : run 9 9 [] b h0 = true := by kernel_rfl
theorem run_9_10 (b : Nat) (h0 : Nat → Option Obj) : run 9 10 [] b h0 = true := by kernel_rfl
theorem run_9_11 (b : Nat) (h0 : Nat → Option Obj) : run 9 11 [] b h0 = true := by kernel_rfl
theorem run_9_12 (b : Nat) (h0 : Nat → Option Obj) : run 9 12 [] b h0 = true := by kernel_rfl
theorem run_9_13 (b : Nat) (h0 : Nat → Option Obj) : run 9 13 [] b h0 = true := by kernel_rfl
theorem run_9_14 (b : Nat) (h0 : Nat → Option Obj) : run 9 14 [] b h0 = true := by kernel_rfl
theorem run_9_15 (b : Nat) (h0 : Nat → Option Obj) : run 9 15 [] b h0 = true := by kernel_rfl
end Go.Proofs.YtaoejgkanafmoaaDoor.TreeBinds
