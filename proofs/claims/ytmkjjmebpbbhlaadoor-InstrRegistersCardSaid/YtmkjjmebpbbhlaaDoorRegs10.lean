/-
  Layer 7: what is read and written is of the registers that there are: runs, part 10.
-/
import Derived.Test.YtmkjjmebpbbhlaaDoorRegs
namespace Go.Proofs.YtmkjjmebpbbhlaaDoor.InstrRegisters
open Go.Xq Go.Proofs.YtmkjjmebpbbhlaaDoor
set_option maxRecDepth 1000000
theorem run_21_2_fff (b : Nat) (h0 : Nat → Option Obj) : run 21 2 (fu ++ (fa false ++ (fb false ++ fe false))) b h0 = true := by kernel_rfl
theorem run_22_0_ttt (b : Nat) (h0 : Nat → Option Obj) : run 22 0 (fu ++ (fa true ++ (fb true ++ fe true))) b h0 = true := by kernel_rfl
theorem run_22_0_tff (b : Nat) (h0 : Nat → Option Obj) : run 22 0 (fu ++ (fa true ++ (fb false ++ fe false))) b h0 = true := by kernel_rfl
theorem run_22_0_ftf (b : Nat) (h0 : Nat → Option Obj) : run 22 0 (fu ++ (fa false ++ (fb true ++ fe false))) b h0 = true := by kernel_rfl
theorem run_22_0_fft (b : Nat) (h0 : Nat → Option Obj) : run 22 0 (fu ++ (fa false ++ (fb false ++ fe true))) b h0 = true := by kernel_rfl
theorem run_22_0_fff (b : Nat) (h0 : Nat → Option Obj) : run 22 0 (fu ++ (fa false ++ (fb false ++ fe false))) b h0 = true := by kernel_rfl
theorem run_22_1_ttt (b : Nat) (h0 : Nat → Option Obj) : run 22 1 (fu ++ (fa true ++ (fb true ++ fe true))) b h0 = true := by kernel_rfl
theorem run_22_1_tff (b : Nat) (h0 : Nat → Option Obj) : run 22 1 (fu ++ (fa true ++ (fb false ++ fe false))) b h0 = true := by kernel_rfl
theorem run_22_1_ftf (b : Nat) (h0 : Nat → Option Obj) : run 22 1 (fu ++ (fa false ++ (fb true ++ fe false))) b h0 = true := by kernel_rfl
theorem run_22_1_fft (b : Nat) (h0 : Nat → Option Obj) : run 22 1 (fu ++ (fa false ++ (fb false ++ fe true))) b h0 = true := by kernel_rfl
theorem run_22_1_fff (b : Nat) (h0 : Nat → Option Obj) : run 22 1 (fu ++ (fa false ++ (fb false ++ fe false))) b h0 = true := by kernel_rfl
theorem run_22_2_ttt (b : Nat) (h0 : Nat → Option Obj) : run 22 2 (fu ++ (fa true ++ (fb true ++ fe true))) b h0 = true := by kernel_rfl
theorem run_22_2_tff (b : Nat) (h0 : Nat → Option Obj) : run 22 2 (fu ++ (fa true ++ (fb false ++ fe false))) b h0 = true := by kernel_rfl
theorem run_22_2_ftf (b : Nat) (h0 : Nat → Option Obj) : run 22 2 (fu ++ (fa false ++ (fb true ++ fe false))) b h0 = true := by kernel_rfl
theorem run_22_2_fft (b : Nat) (h0 : Nat → Option Obj) : run 22 2 (fu ++ (fa false ++ (fb false ++ fe true))) b h0 = true := by kernel_rfl
theorem run_22_2_fff (b : Nat) (h0 : Nat → Option Obj) : run 22 2 (fu ++ (fa false ++ (fb false ++ fe false))) b h0 = true := by kernel_rfl
theorem run_23_0_ttt (b : Nat) (h0 : Nat → Option Obj) : run 23 0 (fu ++ (fa true ++ (fb true ++ fe true))) b h0 = true := by kernel_rfl
theorem run_23_0_tff (b : Nat) (h0 : Nat → Option Obj) : run 23 0 (fu ++ (fa true ++ (fb false ++ fe false))) b h0 = true := by kernel_rfl
theorem run_23_0_ftf (b : Nat) (h0 : Nat → Option Obj) : run 23 0 (fu ++ (fa false ++ (fb true ++ fe false))) b h0 = true := by kernel_rfl
theorem run_23_0_fft (b : Nat) (h0 : Nat → Option Obj) : run 23 0 (fu ++ (fa false ++ (fb false ++ fe true))) b h0 = true := by kernel_rfl
theorem run_23_0_fff (b : Nat) (h0 : Nat → Option Obj) : run 23 0 (fu ++ (fa false ++ (fb false ++ fe false))) b h0 = true := by kernel_rfl
theorem run_23_1_ttt (b : Nat) (h0 : Nat → Option Obj) : run 23 1 (fu ++ (fa true ++ (fb true ++ fe true))) b h0 = true := by kernel_rfl
theorem run_23_1_tff (b : Nat) (h0 : Nat → Option Obj) : run 23 1 (fu ++ (fa true ++ (fb false ++ fe false))) b h0 = true := by kernel_rfl
theorem run_23_1_ftf (b : Nat) (h0 : Nat → Option Obj) : run 23 1 (fu ++ (fa false ++ (fb true ++ fe false))) b h0 = true := by kernel_rfl
theorem run_23_1_fft (b : Nat) (h0 : Nat → Option Obj) : run 23 1 (fu ++ (fa false ++ (fb false ++ fe true))) b h0 = true := by kernel_rfl
theorem run_23_1_fff (b : Nat) (h0 : Nat → Option Obj) : run 23 1 (fu ++ (fa false ++ (fb false ++ fe false))) b h0 = true := by kernel_rfl
end Go.Proofs.YtmkjjmebpbbhlaaDoor.InstrRegisters
