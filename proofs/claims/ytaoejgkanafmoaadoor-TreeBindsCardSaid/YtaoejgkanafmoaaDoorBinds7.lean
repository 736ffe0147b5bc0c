/-
  Layer 03: what binds more strongly needs no parentheses: runs, part 7.
-/
import Derived.Test.YtaoejgkanafmoaaDoorBinds
namespace Go.Proofs.YtaoejgkanafmoaaDoor.TreeBinds
open Go.Xq Go.Proofs.YtaoejgkanafmoaaDoor
set_option maxRecDepth 1000000
theorem run_7_0 (b : Nat) (h0 : Nat → Option Obj) : run 7 0 [] b h0 = true := by kernel_rfl
theorem run_7_1 (b : Nat) (h0 : Nat → Option Obj) : run 7 1 [] b h0 = true := by kernel_rfl
theorem run_7_2 (b : Nat) (h0 : Nat → Option Obj) : run 7 2 [] b h0 = true := by kernel_rfl
theorem run_7_3 (b : Nat) (h0 : Nat → Option Obj) : run 7 3 [] b h0 = true := by kernel_rfl
theorem run_7_4 (b : Nat) (h0 : Nat → Option Obj) : run 7 4 [] b h0 = true := by kernel_rfl
theorem run_7_5 (b : Nat) (h0 : Nat → Option Obj) : run 7 5 [] b h0 = true := by kernel_rfl
theorem run_7_6 (b : Nat) (h0 : Nat → Option Obj) : run 7 6 [] b h0 = true := by kernel_rfl
theorem run_7_7 (b : Nat) (h0 : Nat → Option Obj) : run 7 7 [] b h0 = true := by kernel_rfl
theorem run_7_8 (b : Nat) (h0 : Nat → Option Obj) : run 7 8 [] b h0 = true := by kernel_rfl
theorem run_7_9 (b : Nat) (h0 : Nat → Option Obj) : run 7 9 [] b h0 = true := by kernel_rfl
theorem run_7_10 (b : Nat) (h0 : Nat → Option Obj) : run 7 10 [] b h0 = true := by kernel_rfl
theorem run_7_11 (b : Nat) (h0 : Nat → Option Obj) : run 7 11 [] b h0 = true := by kernel_rfl
theorem run_7_12 (b : Nat) (h0 : Nat → Option Obj) : run 7 12 [] b h0 = true := by kernel_rfl
theorem run_7_13 (b : Nat) (h0 : Nat → Option Obj) : run 7 13 [] b h0 = true := by kernel_rfl
theorem run_7_14 (b : Nat) (h0 : Nat → Option Obj) : run 7 14 [] b h0 = true := by kernel_rfl
theorem run_7_15 (b : Nat) (h0 : Nat → Option Obj) : run 7 15 [] b h0 = true := by kernel_rfl
end Go.Proofs.YtaoejgkanafmoaaDoor.TreeBinds
