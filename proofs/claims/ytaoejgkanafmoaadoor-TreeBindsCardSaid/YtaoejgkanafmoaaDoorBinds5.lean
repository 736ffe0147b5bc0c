/-
  Layer 03: what binds more strongly needs no parentheses: runs, part 5.
-/
import Derived.Test.YtaoejgkanafmoaaDoorBinds
namespace Go.Proofs.YtaoejgkanafmoaaDoor.TreeBinds
open Go.Xq Go.Proofs.YtaoejgkanafmoaaDoor
set_option maxRecDepth 1000000
theorem run_5_0 (b : Nat) (h0 : Nat → Option Obj) : run 5 0 [] b h0 = true := by kernel_rfl
theorem run_5_1 (b : Nat) (h0 : Nat → Option Obj) : run 5 1 [] b h0 = true := by kernel_rfl
theorem run_5_2 (b : Nat) (h0 : Nat → Option Obj) : run 5 2 [] b h0 = true := by kernel_rfl
theorem run_5_3 (b : Nat) (h0 : Nat → Option Obj) : run 5 3 [] b h0 = true := by kernel_rfl
theorem run_5_4 (b : Nat) (h0 : Nat → Option Obj) : run 5 4 [] b h0 = true := by kernel_rfl
theorem run_5_5 (b : Nat) (h0 : Nat → Option Obj) : run 5 5 [] b h0 = true := by kernel_rfl
theorem run_5_6 (b : Nat) (h0 : Nat → Option Obj) : run 5 6 [] b h0 = true := by kernel_rfl
theorem run_5_7 (b : Nat) (h0 : Nat → Option Obj) : run 5 7 [] b h0 = true := by kernel_rfl
theorem run_5_8 (b : Nat) (h0 : Nat → Option Obj) : run 5 8 [] b h0 = true := by kernel_rfl
theorem run_5_9 (b : Nat) (h0 : Nat → Option Obj) : run 5 9 [] b h0 = true := by kernel_rfl
theorem run_5_10 (b : Nat) (h0 : Nat → Option Obj) : run 5 10 [] b h0 = true := by kernel_rfl
theorem run_5_11 (b : Nat) (h0 : Nat → Option Obj) : run 5 11 [] b h0 = true := by kernel_rfl
theorem run_5_12 (b : Nat) (h0 : Nat → Option Obj) : run 5 12 [] b h0 = true := by kernel_rfl
theorem run_5_13 (b : Nat) (h0 : Nat → Option Obj) : run 5 13 [] b h0 = true := by kernel_rfl
theorem run_5_14 (b : Nat) (h0 : Nat → Option Obj) : run 5 14 [] b h0 = true := by kernel_rfl
theorem run_5_15 (b : Nat) (h0 : Nat → Option Obj) : run 5 15 [] b h0 = true := by kernel_rfl
end Go.Proofs.YtaoejgkanafmoaaDoor.TreeBinds
