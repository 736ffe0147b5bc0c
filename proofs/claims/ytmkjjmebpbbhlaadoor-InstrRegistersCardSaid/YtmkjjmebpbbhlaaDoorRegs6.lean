/-
  Layer 7: what is read and written is of the registers that there are: runs, part 6.
-/
import Derived.Test.YtmkjjmebpbbhlaaDoorRegs
namespace Go.Proofs.YtmkjjmebpbbhlaaDoor.InstrRegisters
open Go.Xq Go.Proofs.YtmkjjmebpbbhlaaDoor
set_option maxRecDepth 1000000
theorem run_10_1_tff (b : Nat) (h0 : Nat → Option Obj) : run 10 1 (fu ++ (fa true ++ (fb false ++ fe false))) b h0 = true := by kernel_rfl
theorem run_10_1_ftf (b : Nat) (h0 : Nat → Option Obj) : run 10 1 (fu ++ (fa false ++ (fb true ++ fe false))) b h0 = true := by kernel_rfl
theorem run_10_1_fft (b : Nat) (h0 : Nat → Option Obj) : run 10 1 (fu ++ (fa false ++ (fb false ++ fe true))) b h0 = true := by kernel_rfl
theorem run_10_1_fff (b : Nat) (h0 : Nat → Option Obj) : run 10 1 (fu ++ (fa false ++ (fb false ++ fe false))) b h0 = true := by kernel_rfl
theorem run_10_2_ttt (b : Nat) (h0 : Nat → Option Obj) : run 10 2 (fu ++ (fa true ++ (fb true ++ fe true))) b h0 = true := by kernel_rfl
theorem run_10_2_tff (b : Nat) (h0 : Nat → Option Obj) : run 10 2 (fu ++ (fa true ++ (fb false ++ fe false))) b h0 = true := by kernel_rfl
theorem run_10_2_ftf (b : Nat) (h0 : Nat → Option Obj) : run 10 2 (fu ++ (fa false ++ (fb true ++ fe false))) b h0 = true := by kernel_rfl
theorem run_10_2_fft (b : Nat) (h0 : Nat → Option Obj) : run 10 2 (fu ++ (fa false ++ (fb false ++ fe true))) b h0 = true := by kernel_rfl
theorem run_10_2_fff (b : Nat) (h0 : Nat → Option Obj) : run 10 2 (fu ++ (fa false ++ (fb false ++ fe false))) b h0 = true := by kernel_rfl
theorem run_11_0_ttt (b : Nat) (h0 : Nat → Option Obj) : run 11 0 (fu ++ (fa true ++ (fb true ++ fe true))) b h0 = true := by kernel_rfl
theorem run_11_0_tff (b : Nat) (h0 : Nat → Option Obj) : run 11 0 (fu ++ (fa true ++ (fb false ++ fe false))) b h0 = true := by kernel_rfl
theorem run_11_0_ftf (b : Nat) (h0 : Nat → Option Obj) : run 11 0 (fu ++ (fa false ++ (fb true ++ fe false))) b h0 = true := by kernel_rfl
theorem run_11_0_fft (b : Nat) (h0 : Nat → Option Obj) : run 11 0 (fu ++ (fa false ++ (fb false ++ fe true))) b h0 = true := by kernel_rfl
theorem run_11_0_fff (b : Nat) (h0 : Nat → Option Obj) : run 11 0 (fu ++ (fa false ++ (fb false ++ fe false))) b h0 = true := by kernel_rfl
theorem run_11_1_ttt (b : Nat) (h0 : Nat → Option Obj) : run 11 1 (fu ++ (fa true ++ (fb true ++ fe true))) b h0 = true := by kernel_rfl
theorem run_11_1_tff (b : Nat) (h0 : Nat → Option Obj) : run 11 1 (fu ++ (fa true ++ (fb false ++ fe false))) b h0 = true := by kernel_rfl
theorem run_11_1_ftf (b : Nat) (h0 : Nat → Option Obj) : run 11 1 (fu ++ (fa false ++ (fb true ++ fe false))) b h0 = true := by kernel_rfl
theorem run_11_1_fft (b : Nat) (h0 : Nat → Option Obj) : run 11 1 (fu ++ (fa false ++ (fb false ++ fe true))) b h0 = true := by kernel_rfl
theorem run_11_1_fff (b : Nat) (h0 : Nat → Option Obj) : run 11 1 (fu ++ (fa false ++ (fb false ++ fe false))) b h0 = true := by kernel_rfl
theorem run_11_2_ttt (b : Nat) (h0 : Nat → Option Obj) : run 11 2 (fu ++ (fa true ++ (fb true ++ fe true))) b h0 = true := by kernel_rfl
theorem run_11_2_tff (b : Nat) (h0 : Nat → Option Obj) : run 11 2 (fu ++ (fa true ++ (fb false ++ fe false))) b h0 = true := by kernel_rfl
theorem run_11_2_ftf (b : Nat) (h0 : Nat → Option Obj) : run 11 2 (fu ++ (fa false ++ (fb true ++ fe false))) b h0 = true := by kernel_rfl
theorem run_11_2_fft (b : Nat) (h0 : Nat → Option Obj) : run 11 2 (fu ++ (fa false ++ (fb false ++ fe true))) b h0 = true := by kernel_rfl
theorem run_11_2_fff (b : Nat) (h0 : Nat → Option Obj) : run 11 2 (fu ++ (fa false ++ (fb false ++ fe false))) b h0 = true := by kernel_rfl
theorem run_12_0_t (b : Nat) (h0 : Nat → Option Obj) : run 12 0 (fu ++ fa true) b h0 = true := by kernel_rfl
theorem run_12_0_f (b : Nat) (h0 : Nat → Option Obj) : run 12 0 (fu ++ fa false) b h0 = true := by kernel_rfl
end Go.Proofs.YtmkjjmebpbbhlaaDoor.InstrRegisters
