/-
  Layer 03: what binds more strongly needs no parentheses: runs, part 2.
-/
import Derived.Test.YtaoejgkanafmoaaDoorBinds
namespace Go.Proofs.YtaoejgkanafmoaaDoor.TreeBinds
open Go.Xq Go.Proofs.YtaoejgkanafmoaaDoor
set_option maxRecDepth 1000000
theorem run_2_0 (b : Nat) (h0 : Nat → Option Obj) : run 2 0 [] b h0 = true := by kernel_rfl
theorem run_2_1 (b : Nat) (h0 : Nat → Option Obj) : run 2 1 [] b h0 = true := by kernel_rfl
theorem run_2_2 (b : Nat) (h0 : Nat → Option Obj) : run 2 2 [] b h0 = true := by kernel_rfl
theorem run_2_3 (b : Nat) (h0 : Nat → Option Obj) : run 2 3 [] b h0 = true := by kernel_rfl
theorem run_2_4 (b : Nat) (h0 : Nat → Option Obj) : run 2 4 [] b h0 = true := by kernel_rfl
theorem run_2_5 (b : Nat) (h0 : Nat → Option Obj) : run 2 5 [] b h0 = true := by kernel_rfl
theorem run_2_6 (b : Nat) (h0 : Nat → Option Obj) : run 2 6 [] b h0 = true := by kernel_rfl
theorem run_2_7 (b : Nat) (h0 : Nat → Option Obj) : run 2 7 [] b h0 = true := by kernel_rfl
theorem run_2_8 (b : Nat) (h0 : Nat → Option Obj) : run 2 8 [] b h0 = true := by kernel_rfl
theorem run_2_9 (b : Nat) (h0 : Nat → Option Obj) : run 2 9 [] b h0 = true := by kernel_rfl
theorem run_2_10 (b : Nat) (h0 : Nat → Option Obj) : run 2 10 [] b h0 = true := by kernel_rfl
theorem run_2_11 (b : Nat) (h0 : Nat → Option Obj) : run 2 11 [] b h0 = true := by kernel_rfl
theorem run_2_12 (b : Nat) (h0 : Nat → Option Obj) : run 2 12 [] b h0 = true := by kernel_rfl
theorem run_2_13 (b : Nat) (h0 : Nat → Option Obj) : run 2 13 [] b h0 = true := by kernel_rfl
theorem run_2_14 (b : Nat) (h0 : Nat → Option Obj) : run 2 14 [] b h0 = true := by kernel_rfl
theorem run_2_15 (b : Nat) (h0 : Nat → Option Obj) : run 2 15 [] b h0 = true := by kernel_rfl
end Go.Proofs.YtaoejgkanafmoaaDoor.TreeBinds
