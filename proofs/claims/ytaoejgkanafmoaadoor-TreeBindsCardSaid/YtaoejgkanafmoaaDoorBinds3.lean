/-
  Layer 03: what binds more strongly needs no parentheses: runs, part 3.
-/
import Derived.Test.YtaoejgkanafmoaaDoorBinds
namespace Go.Proofs.YtaoejgkanafmoaaDoor.TreeBinds
open Go.Xq Go.Proofs.YtaoejgkanafmoaaDoor
set_option maxRecDepth 1000000
theorem run_3_0 (b : Nat) (h0 : Nat → Option Obj) : run 3 0 [] b h0 = true := by kernel_rfl
theorem run_3_1 (b : Nat) (h0 : Nat → Option Obj) : run 3 1 [] b h0 = true := by kernel_rfl
theorem run_3_2 (b : Nat) (h0 : Nat → Option Obj) : run 3 2 [] b h0 = true := by kernel_rfl
theorem run_3_3 (b : Nat) (h0 : Nat → Option Obj) : run 3 3 [] b h0 = true := by kernel_rfl
theorem run_3_4 (b : Nat) (h0 : Nat → Option Obj) : run 3 4 [] b h0 = true := by kernel_rfl
theorem run_3_5 (b : Nat) (h0 : Nat → Option Obj) : run 3 5 [] b h0 = true := by kernel_rfl
theorem run_3_6 (b : Nat) (h0 : Nat → Option Obj) : run 3 6 [] b h0 = true := by kernel_rfl
theorem run_3_7 (b : Nat) (h0 : Nat → Option Obj) : run 3 7 [] b h0 = true := by kernel_rfl
theorem run_3_8 (b : Nat) (h0 : Nat → Option Obj) : run 3 8 [] b h0 = true := by kernel_rfl
theorem run_3_9 (b : Nat) (h0 : Nat → Option Obj) : run 3 9 [] b h0 = true := by kernel_rfl
theorem run_3_10 (b : Nat) (h0 : Nat → Option Obj) : run 3 10 [] b h0 = true := by kernel_rfl
theorem run_3_11 (b : Nat) (h0 : Nat → Option Obj) : run 3 11 [] b h0 = true := by kernel_rfl
theorem run_3_12 (b : Nat) (h0 : Nat → Option Obj) : run 3 12 [] b h0 = true := by kernel_rfl
theorem run_3_13 (b : Nat) (h0 : Nat → Option Obj) : run 3 13 [] b h0 = true := by kernel_rfl
theorem run_3_14 (b : Nat) (h0 : Nat → Option Obj) : run 3 14 [] b h0 = true := by kernel_rfl
theorem run_3_15 (b : Nat) (h0 : Nat → Option Obj) : run 3 15 [] b h0 = true := by kernel_rfl
end Go.Proofs.YtaoejgkanafmoaaDoor.TreeBinds
