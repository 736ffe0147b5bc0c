/-
  Layer 03: what binds more strongly needs no parentheses: runs, part 0.
-/
import Derived.Test.YtaoejgkanafmoaaDoorBinds
namespace Go.Proofs.YtaoejgkanafmoaaDoor.TreeBinds
open Go.Xq Go.Proofs.YtaoejgkanafmoaaDoor
set_option maxRecDepth 1000000
theorem run_0_0 (b : Nat) (h0 : Nat → Option Obj) : run 0 0 [] b h0 = true := by kernel_rfl
theorem run_0_1 (b : Nat) (h0 : Nat → Option Obj) : run 0 1 [] b h0 = true := by kernel_rfl
theorem run_0_2 (b : Nat) (h0 : Nat → Option Obj) : run 0 2 [] b h0 = true := by kernel_rfl
theorem run_0_3 (b : Nat) (h0 : Nat → Option Obj) : run 0 3 [] b h0 = true := by kernel_rfl
theorem run_0_4 (b : Nat) (h0 : Nat → Option Obj) : run 0 4 [] b h0 = true := by kernel_rfl
theorem run_0_5 (b : Nat) (h0 : Nat → Option Obj) : run 0 5 [] b h0 = true := by kernel_rfl
theorem run_0_6 (b : Nat) (h0 : Nat → Option Obj) : run 0 6 [] b h0 = true := by kernel_rfl
theorem run_0_7 (b : Nat) (h0 : Nat → Option Obj) : run 0 7 [] b h0 = true := by kernel_rfl
theorem run_0_8 (b : Nat) (h0 : Nat → Option Obj) : run 0 8 [] b h0 = true := by kernel_rfl
theorem run_0_9 (b : Nat) (h0 : Nat → Option Obj) : run 0 9 [] b h0 = true := by kernel_rfl
theorem run_0_10 (b : Nat) (h0 : Nat → Option Obj) : run 0 10 [] b h0 = true := by kernel_rfl
theorem run_0_11 (b : Nat) (h0 : Nat → Option Obj) : run 0 11 [] b h0 = true := by kernel_rfl
theorem run_0_12 (b : Nat) (h0 : Nat → Option Obj) : run 0 12 [] b h0 = true := by kernel_rfl
theorem run_0_13 (b : Nat) (h0 : Nat → Option Obj) : run 0 13 [] b h0 = true := by kernel_rfl
theorem run_0_14 (b : Nat) (h0 : Nat → Option Obj) : run 0 14 [] b h0 = true := by kernel_rfl
theorem run_0_15 (b : Nat) (h0 : Nat → Option Obj) : run 0 15 [] b h0 = true := by kernel_rfl
end Go.Proofs.YtaoejgkanafmoaaDoor.TreeBinds
