/-
  Layer 7: what is read and written is of the registers that there are: runs, part 7.
-/
import Derived.Test.YtmkjjmebpbbhlaaDoorRegs
namespace Go.Proofs.YtmkjjmebpbbhlaaDoor.InstrRegisters
open Go.Xq Go.Proofs.YtmkjjmebpbbhlaaDoor
set_option maxRecDepth 1000000
theorem run_12_1_t (b : Nat) (h0 : Nat → Option Obj) : run 12 1 (fu ++ fa true) b h0 = true := by kernel_rfl
theorem run_12_1_f (b : Nat) (h0 : Nat → Option Obj) : run 12 1 (fu ++ fa false) b h0 = true := by kernel_rfl
theorem run_12_2_t (b : Nat) (h0 : Nat → Option Obj) : run 12 2 (fu ++ fa true) b h0 = true := by kernel_rfl
theorem run_12_2_f (b : Nat) (h0 : Nat → Option Obj) : run 12 2 (fu ++ fa false) b h0 = true := by kernel_rfl
theorem run_13_0_t (b : Nat) (h0 : Nat → Option Obj) : run 13 0 (fu ++ fa true) b h0 = true := by kernel_rfl
theorem run_13_0_f (b : Nat) (h0 : Nat → Option Obj) : run 13 0 (fu ++ fa false) b h0 = true := by kernel_rfl
theorem run_13_1_t (b : Nat) (h0 : Nat → Option Obj) : run 13 1 (fu ++ fa true) b h0 = true := by kernel_rfl
theorem run_13_1_f (b : Nat) (h0 : Nat → Option Obj) : run 13 1 (fu ++ fa false) b h0 = true := by kernel_rfl
theorem run_13_2_t (b : Nat) (h0 : Nat → Option Obj) : run 13 2 (fu ++ fa true) b h0 = true := by kernel_rfl
theorem run_13_2_f (b : Nat) (h0 : Nat → Option Obj) : run 13 2 (fu ++ fa false) b h0 = true := by kernel_rfl
theorem run_14_0_t (b : Nat) (h0 : Nat → Option Obj) : run 14 0 (fu ++ fa true) b h0 = true := by kernel_rfl
theorem run_14_0_f (b : Nat) (h0 : Nat → Option Obj) : run 14 0 (fu ++ fa false) b h0 = true := by kernel_rfl
theorem run_14_1_t (b : Nat) (h0 : Nat → Option Obj) : run 14 1 (fu ++ fa true) b h0 = true := by kernel_rfl
theorem run_14_1_f (b : Nat) (h0 : Nat → Option Obj) : run 14 1 (fu ++ fa false) b h0 = true := by kernel_rfl
theorem run_14_2_t (b : Nat) (h0 : Nat → Option Obj) : run 14 2 (fu ++ fa true) b h0 = true := by kernel_rfl
theorem run_14_2_f (b : Nat) (h0 : Nat → Option Obj) : run 14 2 (fu ++ fa false) b h0 = true := by kernel_rfl
theorem run_15_0 (b : Nat) (h0 : Nat → Option Obj) : run 15 0 fu b h0 = true := by kernel_rfl
theorem run_15_1 (b : Nat) (h0 : Nat → Option Obj) : run 15 1 fu b h0 = true := by kernel_rfl
theorem run_15_2 (b : Nat) (h0 : Nat → Option Obj) : run 15 2 fu b h0 = true := by kernel_rfl
theorem run_16_0 (b : Nat) (h0 : Nat → Option Obj) : run 16 0 fu b h0 = true := by kernel_rfl
theorem run_16_1 (b : Nat) (h0 : Nat → Option Obj) : run 16 1 fu b h0 = true := by kernel_rfl
theorem run_16_2 (b : Nat) (h0 : Nat → Option Obj) : run 16 2 fu b h0 = true := by kernel_rfl
theorem run_17_0_t (b : Nat) (h0 : Nat → Option Obj) : run 17 0 (fu ++ fa true) b h0 = true := by kernel_rfl
theorem run_17_0_f (b : Nat) (h0 : Nat → Option Obj) : run 17 0 (fu ++ fa false) b h0 = true := by kernel_rfl
theorem run_17_1_t (b : Nat) (h0 : Nat → Option Obj) : run 17 1 (fu ++ fa true) b h0 = true := by kernel_rfl
theorem run_17_1_f (b : Nat) (h0 : Nat → Option Obj) : run 17 1 (fu ++ fa false) b h0 = true := by kernel_rfl
end Go.Proofs.YtmkjjmebpbbhlaaDoor.InstrRegisters
