/-
  Layer 03: what binds more strongly needs no parentheses: runs, part 1.
-/
import Derived.Test.YtaoejgkanafmoaaDoorBinds
namespace Go.Proofs.YtaoejgkanafmoaaDoor.TreeBinds
open Go.Xq Go.Proofs.YtaoejgkanafmoaaDoor
set_option maxRecDepth 1000000
theorem run_1_0 (b : Nat) (h0 : Nat → Option Obj) : run 1 0 [] b h0 = true := by kernel_rfl
theorem run_1_1 (b : Nat) (h0 : Nat → Option Obj) : run 1 1 [] b h0 = true := by kernel_rfl
theorem run_1_2 (b : Nat) (h0 : Nat → Option Obj) : run 1 2 [] b h0 = true := by kernel_rfl
theorem run_1_3 (b : Nat) (h0 : Nat → Option Obj) : run 1 3 [] b h0 = true := by kernel_rfl
theorem run_1_4 (b : Nat) (h0 : Nat → Option Obj) : run 1 4 [] b h0 = true := by kernel_rfl
theorem run_1_5 (b : Nat) (h0 : Nat → Option Obj) : run 1 5 [] b h0 = true := by kernel_rfl
theorem run_1_6 (b : Nat) (h0 : Nat → Option Obj) : run 1 6 [] b h0 = true := by kernel_rfl
theorem run_1_7 (b : Nat) (h0 : Nat → Option Obj) : run 1 7 [] b h0 = true := by kernel_rfl
theorem run_1_8 (b : Nat) (h0 : Nat → Option Obj) : run 1 8 [] b h0 = true := by kernel_rfl
theorem run_1_9 (b : Nat) (h0 : Nat → Option Obj) : run 1 9 [] b h0 = true := by kernel_rfl
theorem run_1_10 (b : Nat) (h0 : Nat → Option Obj) : run 1 10 [] b h0 = true := by kernel_rfl
theorem run_1_11 (b : Nat) (h0 : Nat → Option Obj) : run 1 11 [] b h0 = true := by kernel_rfl
theorem run_1_12 (b : Nat) (h0 : Nat → Option Obj) : run 1 12 [] b h0 = true := by kernel_rfl
theorem run_1_13 (b : Nat) (h0 : Nat → Option Obj) : run 1 13 [] b h0 = true := by kernel_rfl
theorem run_1_14 (b : Nat) (h0 : Nat → Option Obj) : run 1 14 [] b h0 = true := by kernel_rfl
theorem run_1_15 (b : Nat) (h0 : Nat → Option Obj) : run 1 15 [] b h0 = true := by kernel_rfl
end Go.Proofs.YtaoejgkanafmoaaDoor.TreeBinds
