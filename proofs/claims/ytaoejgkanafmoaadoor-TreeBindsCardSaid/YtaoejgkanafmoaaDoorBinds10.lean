/-
  Layer 03: what binds more strongly needs no parentheses: runs, part 10.
-/
import Derived.Test.YtaoejgkanafmoaaDoorBinds
namespace Go.Proofs.YtaoejgkanafmoaaDoor.TreeBinds
open Go.Xq Go.Proofs.YtaoejgkanafmoaaDoor
set_option maxRecDepth 1000000
theorem run_10_0 (b : Nat) (h0 : Nat → Option Obj) : run 10 0 [] b h0 = true := by kernel_rfl
theorem run_10_1 (b : Nat) (h0 : Nat → Option Obj) : run 10 1 [] b h0 = true := by kernel_rfl
theorem run_10_2 (b : Nat) (h0 : Nat → Option Obj) : run 10 2 [] b h0 = true := by kernel_rfl
theorem run_10_3 (b : Nat) (h0 : Nat → Option Obj) : run 10 3 [] b h0 = true := by kernel_rfl
theorem run_10_4 (b : Nat) (h0 : Nat → Option Obj) : run 10 4 [] b h0 = true := by kernel_rfl
theorem run_10_5 (b : Nat) (h0 : Nat → Option Obj) : run 10 5 [] b h0 = true := by kernel_rfl
theorem run_10_6 (b : Nat) (h0 : Nat → Option Obj) : run 10 6 [] b h0 = true := by kernel_rfl
theorem run_10_7 (b : Nat) (h0 : Nat → Option Obj) : run 10 7 [] b h0 = true := by kernel_rfl
theorem run_10_8 (b : Nat) (h0 : Nat → Option Obj) : run 10 8 [] b h0 = true := by kernel_rfl
theorem run_10_9 (b : Nat) (h0 : Nat → Option Obj) : run 10 9 [] b h0 = true := by kernel_rfl
theorem run_10_10 (b : Nat) (h0 : Nat → Option Obj) : run 10 10 [] b h0 = true := by kernel_rfl
theorem run_10_11 (b : Nat) (h0 : Nat → Option Obj) : run 10 11 [] b h0 = true := by kernel_rfl
theorem run_10_12 (b : Nat) (h0 : Nat → Option Obj) : run 10 12 [] b h0 = true := by kernel_rfl
theorem run_10_13 (b : Nat) (h0 : Nat → Option Obj) : run 10 13 [] b h0 = true := by kernel_rfl
theorem run_10_14 (b : Nat) (h0 : Nat → Option Obj) : run 10 14 [] b h0 = true := by kernel_rfl
theorem run_10_15 (b : Nat) (h0 : Nat → Option Obj) : run 10 15 [] b h0 = true := by kernel_rfl
end Go.Proofs.YtaoejgkanafmoaaDoor.TreeBinds
