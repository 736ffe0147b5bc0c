/-
  Layer 7: what is read and written is of the registers that there are: runs, part 11.
-/
import Derived.Test.YtmkjjmebpbbhlaaDoorRegs
namespace Go.Proofs.YtmkjjmebpbbhlaaDoor.InstrRegisters
open Go.Xq Go.Proofs.YtmkjjmebpbbhlaaDoor
set_option maxRecDepth 1000000
theorem run_23_2_ttt (b : Nat) (h0 : Nat → Option Obj) : run 23 2 (fu ++ (fa true ++ (fb true ++ fe true))) b h0 = true := by kernel_rfl
theorem run_23_2_tff (b : Nat) (h0 : Nat → Option Obj) : run 23 2 (fu ++ (fa true ++ (fb false ++ fe false))) b h0 = true := by kernel_rfl
theorem run_23_2_ftf (b : Nat) (h0 : Nat → Option Obj) : run 23 2 (fu ++ (fa false ++ (fb true ++ fe false))) b h0 = true := by kernel_rfl
theorem run_23_2_fft (b : Nat) (h0 : Nat → Option Obj) : run 23 2 (fu ++ (fa false ++ (fb false ++ fe true))) b h0 = true := by kernel_rfl
theorem run_23_2_fff (b : Nat) (h0 : Nat → Option Obj) : run 23 2 (fu ++ (fa false ++ (fb false ++ fe false))) b h0 = true := by kernel_rfl
theorem run_24_0 (b : Nat) (h0 : Nat → Option Obj) : run 24 0 fu b h0 = true := by kernel_rfl
theorem run_24_1 (b : Nat) (h0 : Nat → Option Obj) : run 24 1 fu b h0 = true := by kernel_rfl
theorem run_24_2 (b : Nat) (h0 : Nat → Option Obj) : run 24 2 fu b h0 = true := by kernel_rfl
theorem run_25_0 (b : Nat) (h0 : Nat → Option Obj) : run 25 0 fu b h0 = true := by kernel_rfl
theorem run_25_1 (b : Nat) (h0 : Nat → Option Obj) : run 25 1 fu b h0 = true := by kernel_rfl
theorem run_25_2 (b : Nat) (h0 : Nat → Option Obj) : run 25 2 fu b h0 = true := by kernel_rfl
theorem run_26_0 (b : Nat) (h0 : Nat → Option Obj) : run 26 0 fu b h0 = true := by kernel_rfl
theorem run_26_1 (b : Nat) (h0 : Nat → Option Obj) : run 26 1 fu b h0 = true := by kernel_rfl
theorem run_26_2 (b : Nat) (h0 : Nat → Option Obj) : run 26 2 fu b h0 = true := by kernel_rfl
theorem run_27_0 (b : Nat) (h0 : Nat → Option Obj) : run 27 0 fu b h0 = true := by kernel_rfl
theorem run_27_1 (b : Nat) (h0 : Nat → Option Obj) : run 27 1 fu b h0 = true := by kernel_rfl
theorem run_27_2 (b : Nat) (h0 : Nat → Option Obj) : run 27 2 fu b h0 = true := by kernel_rfl
end Go.Proofs.YtmkjjmebpbbhlaaDoor.InstrRegisters
