/-
  Layer 7: what is read and written is of the registers that there are: runs, part 3.
-/
import Derived.Test.YtmkjjmebpbbhlaaDoorRegs
namespace Go.Proofs.YtmkjjmebpbbhlaaDoor.InstrRegisters
open Go.Xq Go.Proofs.YtmkjjmebpbbhlaaDoor
set_option maxRecDepth 1000000
theorem run_5_0_fft (b : Nat) (h0 : Nat → Option Obj) : run 5 0 (fu ++ (fa false ++ (fb false ++ fe true))) b h0 = true := by kernel_rfl
theorem run_5_0_fff (b : Nat) (h0 : Nat → Option Obj) : run 5 0 (fu ++ (fa false ++ (fb false ++ fe false))) b h0 = true := by kernel_rfl
theorem run_5_1_ttt (b : Nat) (h0 : Nat → Option Obj) : run 5 1 (fu ++ (fa true ++ (fb true ++ fe true))) b h0 = true := by kernel_rfl
theorem run_5_1_tff (b : Nat) (h0 : Nat → Option Obj) : run 5 1 (fu ++ (fa true ++ (fb false ++ fe false))) b h0 = true := by kernel_rfl
theorem run_5_1_ftf (b : Nat) (h0 : Nat → Option Obj) : run 5 1 (fu ++ (fa false ++ (fb true ++ fe false))) b h0 = true := by kernel_rfl
theorem run_5_1_fft (b : Nat) (h0 : Nat → Option Obj) : run 5 1 (fu ++ (fa false ++ (fb false ++ fe true))) b h0 = true := by kernel_rfl
theorem run_5_1_fff (b : Nat) (h0 : Nat → Option Obj) : run 5 1 (fu ++ (fa false ++ (fb false ++ fe false))) b h0 = true := by kernel_rfl
theorem run_5_2_ttt (b : Nat) (h0 : Nat → Option Obj) : run 5 2 (fu ++ (fa true ++ (fb true ++ fe true))) b h0 = true := by kernel_rfl
theorem run_5_2_tff (b : Nat) (h0 : Nat → Option Obj) : run 5 2 (fu ++ (fa true ++ (fb false ++ fe false))) b h0 = true := by kernel_rfl
theorem run_5_2_ftf (b : Nat) (h0 : Nat → Option Obj) : run 5 2 (fu ++ (fa false ++ (fb true ++ fe false))) b h0 = true := by kernel_rfl
theorem run_5_2_fft (b : Nat) (h0 : Nat → Option Obj) : run 5 2 (fu ++ (fa false ++ (fb false ++ fe true))) b h0 = true := by kernel_rfl
theorem run_5_2_fff (b : Nat) (h0 : Nat → Option Obj) : run 5 2 (fu ++ (fa false ++ (fb false ++ fe false))) b h0 = true := by kernel_rfl
theorem run_6_0_ttt (b : Nat) (h0 : Nat → Option Obj) : run 6 0 (fu ++ (fa true ++ (fb true ++ fe true))) b h0 = true := by kernel_rfl
theorem run_6_0_tff (b : Nat) (h0 : Nat → Option Obj) : run 6 0 (fu ++ (fa true ++ (fb false ++ fe false))) b h0 = true := by kernel_rfl
theorem run_6_0_ftf (b : Nat) (h0 : Nat → Option Obj) : run 6 0 (fu ++ (fa false ++ (fb true ++ fe false))) b h0 = true := by kernel_rfl
theorem run_6_0_fft (b : Nat) (h0 : Nat → Option Obj) : run 6 0 (fu ++ (fa false ++ (fb false ++ fe true))) b h0 = true := by kernel_rfl
theorem run_6_0_fff (b : Nat) (h0 : Nat → Option Obj) : run 6 0 (fu ++ (fa false ++ (fb false ++ fe false))) b h0 = true := by kernel_rfl
theorem run_6_1_ttt (b : Nat) (h0 : Nat → Option Obj) : run 6 1 (fu ++ (fa true ++ (fb true ++ fe true))) b h0 = true := by kernel_rfl
theorem run_6_1_tff (b : Nat) (h0 : Nat → Option Obj) : run 6 1 (fu ++ (fa true ++ (fb false ++ fe false))) b h0 = true := by kernel_rfl
theorem run_6_1_ftf (b : Nat) (h0 : Nat → Option Obj) : run 6 1 (fu ++ (fa false ++ (fb true ++ fe false))) b h0 = true := by kernel_rfl
theorem run_6_1_fft (b : Nat) (h0 : Nat → Option Obj) : run 6 1 (fu ++ (fa false ++ (fb false ++ fe true))) b h0 = true := by kernel_rfl
theorem run_6_1_fff (b : Nat) (h0 : Nat → Option Obj) : run 6 1 (fu ++ (fa false ++ (fb false ++ fe false))) b h0 = true := by kernel_rfl
theorem run_6_2_ttt (b : Nat) (h0 : Nat → Option Obj) : run 6 2 (fu ++ (fa true ++ (fb true ++ fe true))) b h0 = true := by kernel_rfl
theorem run_6_2_tff (b : Nat) (h0 : Nat → Option Obj) : run 6 2 (fu ++ (fa true ++ (fb false ++ fe false))) b h0 = true := by kernel_rfl
theorem run_6_2_ftf (b : Nat) (h0 : Nat → Option Obj) : run 6 2 (fu ++ (fa false ++ (fb true ++ fe false))) b h0 = true := by kernel_rfl
theorem run_6_2_fft (b : Nat) (h0 : Nat → Option Obj) : run 6 2 (fu ++ (fa false ++ (fb false ++ fe true))) b h0 = true := by kernel_rfl
end Go.Proofs.YtmkjjmebpbbhlaaDoor.InstrRegisters
