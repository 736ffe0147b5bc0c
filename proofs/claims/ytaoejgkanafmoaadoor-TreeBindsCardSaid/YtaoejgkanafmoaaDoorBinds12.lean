/-
  Layer 03: what binds more strongly needs no parentheses: runs, part 12.
-/
import Derived.Test.YtaoejgkanafmoaaDoorBinds
namespace Go.Proofs.YtaoejgkanafmoaaDoor.TreeBinds
open Go.Xq Go.Proofs.YtaoejgkanafmoaaDoor
set_option maxRecDepth 1000000
theorem run_12_0 (b : Nat) (h0 : Nat → Option Obj) : run 12 0 [] b h0 = true := by kernel_rfl
theorem run_12_1 (b : Nat) (h0 : Nat → Option Obj) : run 12 1 [] b h0 = true := by kernel_rfl
theorem run_12_2 (b : Nat) (h0 : Nat → Option Obj) : run 12 2 [] b h0 = true := by kernel_rfl
theorem run_12_3 (b : Nat) (h0 : Nat → Option Obj) : run 12 3 [] b h0 = true := by kernel_rfl
theorem run_12_4 (b : Nat) (h0 : Nat → Option Obj) : run 12 4 [] b h0 = true := by kernel_rfl
theorem run_12_5 (b : Nat) (h0 : Nat → Option Obj) : run 12 5 [] b h0 = true := by kernel_rfl
theorem run_12_6 (b : Nat) (h0 : Nat → Option Obj) : run 12 6 [] b h0 = true := by kernel_rfl
theorem run_12_7 (b : Nat) (h0 : Nat → Option Obj) : run 12 7 [] b h0 = true := by kernel_rfl
theorem run_12_8 (b : Nat) (h0 : Nat → Option Obj) : run 12 8 [] b h0 = true := by kernel_rfl
theorem run_12_9 (b : Nat) (h0 : Nat → Option Obj) : run 12 9 [] b h0 = true := by kernel_rfl
theorem run_12_10 (b : Nat) (h0 : Nat → Option Obj) : run 12 10 [] b h0 = true := by kernel_rfl
theorem run_12_11 (b : Nat) (h0 : Nat → Option Obj) : run 12 11 [] b h0 = true := by kernel_rfl
theorem run_12_12 (b : Nat) (h0 : Nat → Option Obj) : run 12 12 [] b h0 = true := by kernel_rfl
theorem run_12_13 (b : Nat) (h0 : Nat → Option Obj) : run 12 13 [] b h0 = true := by kernel_rfl
theorem run_12_14 (b : Nat) (h0 : Nat → Option Obj) : run 12 14 [] b h0 = true := by kernel_rfl
theorem run_12_15 (b : Nat) (h0 : Nat → Option Obj) : run 12 15 [] b h0 = true := by kernel_rfl
end Go.Proofs.YtaoejgkanafmoaaDoor.TreeBinds
