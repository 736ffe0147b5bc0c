/-
  Layer 03: what binds more strongly needs no parentheses: runs, part 11.
-/
import Derived.Test.YtaoejgkanafmoaaDoorBinds
namespace Go.Proofs.YtaoejgkanafmoaaDoor.TreeBinds
open Go.Xq Go.Proofs.YtaoejgkanafmoaaDoor
set_option maxRecDepth 1000000
theorem run_11_0 (b : Nat) (h0 : Nat → Option Obj) : run 11 0 [] b h0 = true := by kernel_rfl
theorem run_11_1 (b : Nat) (h0 : Nat → Option Obj) : run 11 1 [] b h0 = true := by kernel_rfl
theorem run_11_2 (b : Nat) (h0 : Nat → Option Obj) : run 11 2 [] b h0 = true := by kernel_rfl
theorem run_11_3 (b : Nat) (h0 : Nat → Option Obj) : run 11 3 [] b h0 = true := by kernel_rfl
theorem run_11_4 (b : Nat) (h0 : Nat → Option Obj) : run 11 4 [] b h0 = true := by kernel_rfl
theorem run_11_5 (b : Nat) (h0 : Nat → Option Obj) : run 11 5 [] b h0 = true := by kernel_rfl
theorem run_11_6 (b : Nat) (h0 : Nat → Option Obj) : run 11 6 [] b h0 = true := by kernel_rfl
theorem run_11_7 (b : Nat) (h0 : Nat → Option Obj) : run 11 7 [] b h0 = true := by kernel_rfl
theorem run_11_8 (b : Nat) (h0 : Nat → Option Obj) : run 11 8 [] b h0 = true := by kernel_rfl
theorem run_11_9 (b : Nat) (h0 : Nat → Option Obj) : run 11 9 [] b h0 = true := by kernel_rfl
theorem run_11_10 (b : Nat) (h0 : Nat → Option Obj) : run 11 10 [] b h0 = true := by kernel_rfl
theorem run_11_11 (b : Nat) (h0 : Nat → Option Obj) : run 11 11 [] b h0 = true := by kernel_rfl
theorem run_11_12 (b : Nat) (h0 : Nat → Option Obj) : run 11 12 [] b h0 = true := by kernel_rfl
theorem run_11_13 (b : Nat) (h0 : Nat → Option Obj) : run 11 13 [] b h0 = true := by kernel_rfl
theorem run_11_14 (b : Nat) (h0 : Nat → Option Obj) : run 11 14 [] b h0 = true := by kernel_rfl
theorem run_11_15 (b : Nat) (h0 : Nat → Option Obj) : run 11 15 [] b h0 = true := by kernel_rfl
end Go.Proofs.YtaoejgkanafmoaaDoor.TreeBinds
