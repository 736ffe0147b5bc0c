/-
  Layer 7: what is read and written is of the registers that there are: runs, part 1.
-/
import Derived.Test.YtmkjjmebpbbhlaaDoorRegs
namespace Go.Proofs.YtmkjjmebpbbhlaaDoor.InstrRegisters
open Go.Xq Go.Proofs.YtmkjjmebpbbhlaaDoor
set_option maxRecDepth 1000000
theorem run_1_2_tff (b : Nat) (h0 : Nat → Option Obj) : run 1 2 (fu ++ (fa true ++ (fb false ++ fe false))) b h0 = true := by kernel_rfl
theorem run_1_2_ftf (b : Nat) (h0 : Nat → Option Obj) : run 1 2 (fu ++ (fa false ++ (fb true ++ fe false))) b h0 = true := by kernel_rfl
theorem run_1_2_fft (b : Nat) (h0 : Nat → Option Obj) : run 1 2 (fu ++ (fa false ++ (fb false ++ fe true))) b h0 = true := by kernel_rfl
theorem run_1_2_fff (b : Nat) (h0 : Nat → Option Obj) : run 1 2 (fu ++ (fa false ++ (fb false ++ fe false))) b h0 = true := by kernel_rfl
theorem run_2_0_ttt (b : Nat) (h0 : Nat → Option Obj) : run 2 0 (fu ++ (fa true ++ (fb true ++ fe true))) b h0 = true := by kernel_rfl
theorem run_2_0_tff (b : Nat) (h0 : Nat → Option Obj) : run 2 0 (fu ++ (fa true ++ (fb false ++ fe false))) b h0 = true := by kernel_rfl
theorem run_2_0_ftf (b : Nat) (h0 : Nat → Option Obj) : run 2 0 (fu ++ (fa false ++ (fb true ++ fe false))) b h0 = true := by kernel_rfl
theorem run_2_0_fft (b : Nat) (h0 : Nat → Option Obj) : run 2 0 (fu ++ (fa false ++ (fb false ++ fe true))) b h0 = true := by kernel_rfl
theorem run_2_0_fff (b : Nat) (h0 : Nat → Option Obj) : run 2 0 (fu ++ (fa false ++ (fb false ++ fe false))) b h0 = true := by kernel_rfl
theorem run_2_1_ttt (b : Nat) (h0 : Nat → Option Obj) : run 2 1 (fu ++ (fa true ++ (fb true ++ fe true))) b h0 = true := by kernel_rfl
theorem run_2_1_tff (b : Nat) (h0 : Nat → Option Obj) : run 2 1 (fu ++ (fa true ++ (fb false ++ fe false))) b h0 = true := by kernel_rfl
theorem run_2_1_ftf (b : Nat) (h0 : Nat → Option Obj) : run 2 1 (fu ++ (fa false ++ (fb true ++ fe false))) b h0 = true := by kernel_rfl
theorem run_2_1_fft (b : Nat) (h0 : Nat → Option Obj) : run 2 1 (fu ++ (fa false ++ (fb false ++ fe true))) b h0 = true := by kernel_rfl
theorem run_2_1_fff (b : Nat) (h0 : Nat → Option Obj) : run 2 1 (fu ++ (fa false ++ (fb false ++ fe false))) b h0 = true := by kernel_rfl
theorem run_2_2_ttt (b : Nat) (h0 : Nat → Option Obj) : run 2 2 (fu ++ (fa true ++ (fb true ++ fe true))) b h0 = true := by kernel_rfl
theorem run_2_2_tff (b : Nat) (h0 : Nat → Option Obj) : run 2 2 (fu ++ (fa true ++ (fb false ++ fe false))) b h0 = true := by kernel_rfl
theorem run_2_2_ftf (b : Nat) (h0 : Nat → Option Obj) : run 2 2 (fu ++ (fa false ++ (fb true ++ fe false))) b h0 = true := by kernel_rfl
theorem run_2_2_fft (b : Nat) (h0 : Nat → Option Obj) : run 2 2 (fu ++ (fa false ++ (fb false ++ fe true))) b h0 = true := by kernel_rfl
theorem run_2_2_fff (b : Nat) (h0 : Nat → Option Obj) : run 2 2 (fu ++ (fa false ++ (fb false ++ fe false))) b h0 = true := by kernel_rfl
theorem run_3_0_ttt (b : Nat) (h0 : Nat → Option Obj) : run 3 0 (fu ++ (fa true ++ (fb true ++ fe true))) b h0 = true := by kernel_rfl
theorem run_3_0_tff (b : Nat) (h0 : Nat → Option Obj) : run 3 0 (fu ++ (fa true ++ (fb false ++ fe false))) b h0 = true := by kernel_rfl
theorem run_3_0_ftf (b : Nat) (h0 : Nat → Option Obj) : run 3 0 (fu ++ (fa false ++ (fb true ++ fe false))) b h0 = true := by kernel_rfl
theorem run_3_0_fft (b : Nat) (h0 : Nat → Option Obj) : run 3 0 (fu ++ (fa false ++ (fb false ++ fe true))) b h0 = true := by kernel_rfl
theorem run_3_0_fff (b : Nat) (h0 : Nat → Option Obj) : run 3 0 (fu ++ (fa false ++ (fb false ++ fe false))) b h0 = true := by kernel_rfl
theorem run_3_1_ttt (b : Nat) (h0 : Nat → Option Obj) : run 3 1 (fu ++ (fa true ++ (fb true ++ fe true))) b h0 = true := by kernel_rfl
theorem run_3_1_tff (b : Nat) (h0 : Nat → Option Obj) : run 3 1 (fu ++ (fa true ++ (fb false ++ fe false))) b h0 = true := by kernel_rfl
end Go.Proofs.YtmkjjmebpbbhlaaDoor.InstrRegisters
