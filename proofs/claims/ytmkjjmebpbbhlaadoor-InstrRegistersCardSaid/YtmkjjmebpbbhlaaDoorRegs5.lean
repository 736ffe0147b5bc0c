/-
  Layer 7: what is read and written is of the registers that there are: runs, part 5.
-/
import Derived.Test.YtmkjjmebpbbhlaaDoorRegs
namespace Go.Proofs.YtmkjjmebpbbhlaaDoor.InstrRegisters
open Go.Xq Go.Proofs.YtmkjjmebpbbhlaaDoor
set_option maxRecDepth 1000000
theorem run_8_2_ttt (b : Nat) (h0 : Nat → Option Obj) : run 8 2 (fu ++ (fa true ++ (fb true ++ fe true))) b h0 = true := by kernel_rfl
theorem run_8_2_tff (b : Nat) (h0 : Nat → Option Obj) : run 8 2 (fu ++ (fa true ++ (fb false ++ fe false))) b h0 = true := by kernel_rfl
theorem run_8_2_ftf (b : Nat) (h0 : Nat → Option Obj) : run 8 2 (fu ++ (fa false ++ (fb true ++ fe false))) b h0 = true := by kernel_rfl
theorem run_8_2_fft (b : Nat) (h0 : Nat → Option Obj) : run 8 2 (fu ++ (fa false ++ (fb false ++ fe true))) b h0 = true := by kernel_rfl
theorem run_8_2_fff (b : Nat) (h0 : Nat → Option Obj) : run 8 2 (fu ++ (fa false ++ (fb false ++ fe false))) b h0 = true := by kernel_rfl
theorem run_9_0_ttt (b : Nat) (h0 : Nat → Option Obj) : run 9 0 (fu ++ (fa true ++ (fb true ++ fe true))) b h0 = true := by kernel_rfl
theorem run_9_0_tff (b : Nat) (h0 : Nat → Option Obj) : run 9 0 (fu ++ (fa true ++ (fb false ++ fe false))) b h0 = true := by kernel_rfl
theorem run_9_0_ftf (b : Nat) (h0 : Nat → Option Obj) : run 9 0 (fu ++ (fa false ++ (fb true ++ fe false))) b h0 = true := by kernel_rfl
theorem run_9_0_fft (b : Nat) (h0 : Nat → Option Obj) : run 9 0 (fu ++ (fa false ++ (fb false ++ fe true))) b h0 = true := by kernel_rfl
theorem run_9_0_fff (b : Nat) (h0 : Nat → Option Obj) : run 9 0 (fu ++ (fa false ++ (fb false ++ fe false))) b h0 = true := by kernel_rfl
theorem run_9_1_ttt (b : Nat) (h0 : Nat → Option Obj) : run 9 1 (fu ++ (fa true ++ (fb true ++ fe true))) b h0 = true := by kernel_rfl
theorem run_9_1_tff (b : Nat) (h0 : Nat → Option Obj) : run 9 1 (fu ++ (fa true ++ (fb false ++ fe false))) b h0 = true := by kernel_rfl
theorem run_9_1_ftf (b : Nat) (h0 : Nat → Option Obj) : run 9 1 (fu ++ (fa false ++ (fb true ++ fe false))) b h0 = true := by kernel_rfl
theorem run_9_1_fft (b : Nat) (h0 : Nat → Option Obj) : run 9 1 (fu ++ (fa false ++ (fb false ++ fe true))) b h0 = true := by kernel_rfl
theorem run_9_1_fff (b : Nat) (h0 : Nat → Option Obj) : run 9 1 (fu ++ (fa false ++ (fb false ++ fe false))) b h0 = true := by kernel_rfl
theorem run_9_2_ttt (b : Nat) (h0 : Nat → Option Obj) : run 9 2 (fu ++ (fa true ++ (fb true ++ fe true))) b h0 = true := by kernel_rfl
theorem run_9_2_tff (b : Nat) (h0 : Nat → Option Obj) : run 9 2 (fu ++ (fa true ++ (fb false ++ fe false))) b h0 = true := by kernel_rfl
theorem run_9_2_ftf (b : Nat) (h0 : Nat → Option Obj) : run 9 2 (fu ++ (fa false ++ (fb true ++ fe false))) b h0 = true := by kernel_rfl
theorem run_9_2_fft (b : Nat) (h0 : Nat → Option Obj) : run 9 2 (fu ++ (fa false ++ (fb false ++ fe true))) b h0 = true := by kernel_rfl
theorem run_9_2_fff (b : Nat) (h0 : Nat → Option Obj) : run 9 2 (fu ++ (fa false ++ (fb false ++ fe false))) b h0 = true := by kernel_rfl
theorem run_10_0_ttt (b : Nat) (h0 : Nat → Option Obj) : run 10 0 (fu ++ (fa true ++ (fb true ++ fe true))) b h0 = true := by kernel_rfl
theorem run_10_0_tff (b : Nat) (h0 : Nat → Option Obj) : run 10 0 (fu ++ (fa true ++ (fb false ++ fe false))) b h0 = true := by kernel_rfl
theorem run_10_0_ftf (b : Nat) (h0 : Nat → Option Obj) : run 10 0 (fu ++ (fa false ++ (fb true ++ fe false))) b h0 = true := by kernel_rfl
theorem run_10_0_fft (b : Nat) (h0 : Nat → Option Obj) : run 10 0 (fu ++ (fa false ++ (fb false ++ fe true))) b h0 = true := by kernel_rfl
theorem run_10_0_fff (b : Nat) (h0 : Nat → Option Obj) : run 10 0 (fu ++ (fa false ++ (fb false ++ fe false))) b h0 = true := by kernel_rfl
theorem run_10_1_ttt (b : Nat) (h0 : Nat → Option Obj) : run 10 1 (fu ++ (fa true ++ (fb true ++ fe true))) b h0 = true := by kernel_rfl
end Go.Proofs.YtmkjjmebpbbhlaaDoor.InstrRegisters
