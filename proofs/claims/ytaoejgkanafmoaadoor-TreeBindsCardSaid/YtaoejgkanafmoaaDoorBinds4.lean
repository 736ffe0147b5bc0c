/-
  Layer 03: what binds more strongly needs no parentheses: runs, part 4.
-/
import Derived.Test.YtaoejgkanafmoaaDoorBinds
namespace Go.Proofs.YtaoejgkanafmoaaDoor.TreeBinds
open Go.Xq Go.Proofs.YtaoejgkanafmoaaDoor
set_option maxRecDepth 1000000
theorem run_4_0 (b : Nat) (h0 : Nat → Option Obj) : run 4 0 [] b h0 = true := by kernel_rfl
theorem run_4_1 (b : Nat) (h0 : Nat → Option Obj) : run 4 1 [] b h0 = true := by kernel_rfl
theorem run_4_2 (b : Nat) (h0 : Nat → Option Obj) : run 4 2 [] b h0 = true := by kernel_rfl
theorem run_4_3 (b : Nat) (h0 : Nat → Option Obj) : run 4 3 [] b h0 = true := by kernel_rfl
theorem run_4_4 (b : Nat) (h0 : Nat → Option Obj) : run 4 4 [] b h0 = true := by kernel_rfl
theorem run_4_5 (b : Nat) (h0 : Nat → Option Obj) : run 4 5 [] b h0 = true := by kernel_rfl
theorem run_4_6 (b : Nat) (h0 : Nat → Option Obj) : run 4 6 [] b h0 = true := by kernel_rfl
theorem run_4_7 (b : Nat) (h0 : Nat → Option Obj) : run 4 7 [] b h0 = true := by kernel_rfl
theorem run_4_8 (b : Nat) (h0 : Nat → Option Obj) : run 4 8 [] b h0 = true := by kernel_rfl
theorem run_4_9 (b : Nat) (h0 : Nat → Option Obj) : run 4 9 [] b h0 = true := by kernel_rfl
theorem run_4_10 (b : Nat) (h0 : Nat → Option Obj) : run 4 10 [] b h0 = true := by kernel_rfl
theorem run_4_11 (b : Nat) (h0 : Nat → Option Obj) : run 4 11 [] b h0 = true := by kernel_rfl
theorem run_4_12 (b : Nat) (h0 : Nat → Option Obj) : run 4 12 [] b h0 = true := by kernel_rfl
theorem run_4_13 (b : Nat) (h0 : Nat → Option Obj) : run 4 13 [] b h0 = true := by kernel_rfl
theorem run_4_14 (b : Nat) (h0 : Nat → Option Obj) : run 4 14 [] b h0 = true := by kernel_rfl
theorem run_4_15 (b : Nat) (h0 : Nat → Option Obj) : run 4 15 [] b h0 = true := by kernel_rfl
end Go.Proofs.YtaoejgkanafmoaaDoor.TreeBinds
