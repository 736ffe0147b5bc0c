/-
  Layer 7: what is read and written is of the registers that there are: runs, part 9.
-/
import Derived.Test.YtmkjjmebpbbhlaaDoorRegs
namespace Go.Proofs.YtmkjjmebpbbhlaaDoor.InstrRegisters
open Go.Xq Go.Proofs.YtmkjjmebpbbhlaaDoor
set_option maxRecDepth 1000000
theorem run_20_0_fft (b : Nat) (h0 : Nat → Option Obj) : run 20 0 (fu ++ (fa false ++ (fb false ++ fe true))) b h0 = true := by kernel_rfl
theorem run_20_0_fff (b : Nat) (h0 : Nat → Option Obj) : run 20 0 (fu ++ (fa false ++ (fb false ++ fe false))) b h0 = true := by kernel_rfl
theorem run_20_1_ttt (b : Nat) (h0 : Nat → Option Obj) : run 20 1 (fu ++ (fa true ++ (fb true ++ fe true))) b h0 = true := by kernel_rfl
theorem run_20_1_tff (b : Nat) (h0 : Nat → Option Obj) : run 20 1 (fu ++ (fa true ++ (fb false ++ fe false))) b h0 = true := by kernel_rfl
theorem run_20_1_ftf (b : Nat) (h0 : Nat → Option Obj) : run 20 1 (fu ++ (fa false ++ (fb true ++ fe false))) b h0 = true := by kernel_rfl
theorem run_20_1_fft (b : Nat) (h0 : Nat → Option Obj) : run 20 1 (fu ++ (fa false ++ (fb false ++ fe true))) b h0 = true := by kernel_rfl
theorem run_20_1_fff (b : Nat) (h0 : Nat → Option Obj) : run 20 1 (fu ++ (fa false ++ (fb false ++ fe false))) b h0 = true := by kernel_rfl
theorem run_20_2_ttt (b : Nat) (h0 : Nat → Option Obj) : run 20 2 (fu ++ (fa true ++ (fb true ++ fe true))) b h0 = true := by kernel_rfl
theorem run_20_2_tff (b : Nat) (h0 : Nat → Option Obj) : run 20 2 (fu ++ (fa true ++ (fb false ++ fe false))) b h0 = true := by kernel_rfl
theorem run_20_2_ftf (b : Nat) (h0 : Nat → Option Obj) : run 20 2 (fu ++ (fa false ++ (fb true ++ fe false))) b h0 = true := by kernel_rfl
theorem run_20_2_fft (b : Nat) (h0 : Nat → Option Obj) : run 20 2 (fu ++ (fa false ++ (fb false ++ fe true))) b h0 = true := by kernel_rfl
theorem run_20_2_fff (b : Nat) (h0 : Nat → Option Obj) : run 20 2 (fu ++ (fa false ++ (fb false ++ fe false))) b h0 = true := by kernel_rfl
theorem run_21_0_ttt (b : Nat) (h0 : Nat → Option Obj) : run 21 0 (fu ++ (fa true ++ (fb true ++ fe true))) b h0 = true := by kernel_rfl
theorem run_21_0_tff (b : Nat) (h0 : Nat → Option Obj) : run 21 0 (fu ++ (fa true ++ (fb false ++ fe false))) b h0 = true := by kernel_rfl
theorem run_21_0_ftf (b : Nat) (h0 : Nat → Option Obj) : run 21 0 (fu ++ (fa false ++ (fb true ++ fe false))) b h0 = true := by kernel_rfl
theorem run_21_0_fft (b : Nat) (h0 : Nat → Option Obj) : run 21 0 (fu ++ (fa false ++ (fb false ++ fe true))) b h0 = true := by kernel_rfl
theorem run_21_0_fff (b : Nat) (h0 : Nat → Option Obj) : run 21 0 (fu ++ (fa false ++ (fb false ++ fe false))) b h0 = true := by kernel_rfl
theorem run_21_1_ttt (b : Nat) (h0 : Nat → Option Obj) : run 21 1 (fu ++ (fa true ++ (fb true ++ fe true))) b h0 = true := by kernel_rfl
theorem run_21_1_tff (b : Nat) (h0 : Nat → Option Obj) : run 21 1 (fu ++ (fa true ++ (fb false ++ fe false))) b h0 = true := by kernel_rfl
theorem run_21_1_ftf (b : Nat) (h0 : Nat → Option Obj) : run 21 1 (fu ++ (fa false ++ (fb true ++ fe false))) b h0 = true := by kernel_rfl
theorem run_21_1_fft (b : Nat) (h0 : Nat → Option Obj) : run 21 1 (fu ++ (fa false ++ (fb false ++ fe true))) b h0 = true := by kernel_rfl
theorem run_21_1_fff (b : Nat) (h0 : Nat → Option Obj) : run 21 1 (fu ++ (fa false ++ (fb false ++ fe false))) b h0 = true := by kernel_rfl
theorem run_21_2_ttt (b : Nat) (h0 : Nat → Option Obj) : run 21 2 (fu ++ (fa true ++ (fb true ++ fe true))) b h0 = true := by kernel_rfl
theorem run_21_2_tff (b : Nat) (h0 : Nat → Option Obj) : run 21 2 (fu ++ (fa true ++ (fb false ++ fe false))) b h0 = true := by kernel_rfl
theorem run_21_2_ftf (b : Nat) (h0 : Nat → Option Obj) : run 21 2 (fu ++ (fa false ++ (fb true ++ fe false))) b h0 = true := by kernel_rfl
theorem run_21_2_fft (b : Nat) (h0 : Nat → Option Obj) : run 21 2 (fu ++ (fa false ++ (fb false ++ fe true))) b h0 = true := by kernel_rfl
end Go.Proofs.YtmkjjmebpbbhlaaDoor.InstrRegisters
