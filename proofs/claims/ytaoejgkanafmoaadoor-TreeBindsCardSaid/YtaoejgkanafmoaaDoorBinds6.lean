/-
  Layer 03: what binds more strongly needs no parentheses: runs, part 6.
-/
import Derived.Test.YtaoejgkanafmoaaDoorBinds
namespace Go.Proofs.YtaoejgkanafmoaaDoor.TreeBinds
open Go.Xq Go.Proofs.YtaoejgkanafmoaaDoor
set_option maxRecDepth 1000000
theorem run_6_0 (b : Nat) (h0 : Nat → Option Obj) : run 6 0 [] b h0 = true := by kernel_rfl
theorem run_6_1 (b : Nat) (h0 : Nat → Option Obj) : run 6 1 [] b h0 = true := by kernel_rfl
theorem run_6_2 (b : Nat) (h0 : Nat → Option Obj) : run 6 2 [] b h0 = true := by kernel_rfl
theorem run_6_3 (b : Nat) (h0 : Nat → Option Obj) : run 6 3 [] b h0 = true := by kernel_rfl
theorem run_6_4 (b : Nat) (h0 : Nat → Option Obj) : run 6 4 [] b h0 = true := by kernel_rfl
theorem run_6_5 (b : Nat) (h0 : Nat → Option Obj) : run 6 5 [] b h0 = true := by kernel_rfl
theorem run_6_6 (b : Nat) (h0 : Nat → Option Obj) : run 6 6 [] b h0 = true := by kernel_rfl
theorem run_6_7 (b : Nat) (h0 : Nat → Option Obj) : run 6 7 [] b h0 = true := by kernel_rfl
theorem run_6_8 (b : Nat) (h0 : Nat → Option Obj) : run 6 8 [] b h0 = true := by kernel_rfl
theorem run_6_9 (b : Nat) (h0 : Nat → Option Obj) : run 6 9 [] b h0 = true := by kernel_rfl
theorem run_6_10 (b : Nat) (h0 : Nat → Option Obj) : run 6 10 [] b h0 = true := by kernel_rfl
theorem run_6_11 (b : Nat) (h0 : Nat → Option Obj) : run 6 11 [] b h0 = true := by kernel_rfl
theorem run_6_12 (b : Nat) (h0 : Nat → Option Obj) : run 6 12 [] b h0 = true := by kernel_rfl
theorem run_6_13 (b : Nat) (h0 : Nat → Option Obj) : run 6 13 [] b h0 = true := by kernel_rfl
theorem run_6_14 (b : Nat) (h0 : Nat → Option Obj) : run 6 14 [] b h0 = true := by kernel_rfl
theorem run_6_15 (b : Nat) (h0 : Nat → Option Obj) : run 6 15 [] b h0 = true := by kernel_rfl
end Go.Proofs.YtaoejgkanafmoaaDoor.TreeBinds
