/-
  Layer 7: what is read and written is of the registers that there are: runs, part 8.
-/
import Derived.Test.YtmkjjmebpbbhlaaDoorRegs
namespace Go.Proofs.YtmkjjmebpbbhlaaDoor.InstrRegisters
open Go.Xq Go.Proofs.YtmkjjmebpbbhlaaDoor
set_option maxRecDepth 1000000
theorem run_17_2_t (b : Nat) (h0 : Nat → Option Obj) : run 17 2 (fu ++ fa true) b h0 = true := by kernel_rfl
theorem run_17_2_f (b : Nat) (h0 : Nat → Option Obj) : run 17 2 (fu ++ fa false) b h0 = true := by kernel_rfl
theorem run_18_0_t (b : Nat) (h0 : Nat → Option Obj) : run 18 0 (fu ++ fa true) b h0 = true := by kernel_rfl
theorem run_18_0_f (b : Nat) (h0 : Nat → Option Obj) : run 18 0 (fu ++ fa false) b h0 = true := by kernel_rfl
theorem run_18_1_t (b : Nat) (h0 : Nat → Option Obj) : run 18 1 (fu ++ fa true) b h0 = true := by kernel_rfl
theorem run_18_1_f (b : Nat) (h0 : Nat → Option Obj) : run 18 1 (fu ++ fa false) b h0 = true := by kernel_rfl
theorem run_18_2_t (b : Nat) (h0 : Nat → Option Obj) : run 18 2 (fu ++ fa true) b h0 = true := by kernel_rfl
theorem run_18_2_f (b : Nat) (h0 : Nat → Option Obj) : run 18 2 (fu ++ fa false) b h0 = true := by kernel_rfl
theorem run_19_0_ttt (b : Nat) (h0 : Nat → Option Obj) : run 19 0 (fu ++ (fa true ++ (fb true ++ fe true))) b h0 = true := by kernel_rfl
theorem run_19_0_tff (b : Nat) (h0 : Nat → Option Obj) : run 19 0 (fu ++ (fa true ++ (fb false ++ fe false))) b h0 = true := by kernel_rfl
theorem run_19_0_ftf (b : Nat) (h0 : Nat → Option Obj) : run 19 0 (fu ++ (fa false ++ (fb true ++ fe false))) b h0 = true := by kernel_rfl
theorem run_19_0_fft (b : Nat) (h0 : Nat → Option Obj) : run 19 0 (fu ++ (fa false ++ (fb false ++ fe true))) b h0 = true := by kernel_rfl
theorem run_19_0_fff (b : Nat) (h0 : Nat → Option Obj) : run 19 0 (fu ++ (fa false ++ (fb false ++ fe false))) b h0 = true := by kernel_rfl
theorem run_19_1_ttt (b : Nat) (h0 : Nat → Option Obj) : run 19 1 (fu ++ (fa true ++ (fb true ++ fe true))) b h0 = true := by kernel_rfl
theorem run_19_1_tff (b : Nat) (h0 : Nat → Option Obj) : run 19 1 (fu ++ (fa true ++ (fb false ++ fe false))) b h0 = true := by kernel_rfl
theorem run_19_1_ftf (b : Nat) (h0 : Nat → Option Obj) : run 19 1 (fu ++ (fa false ++ (fb true ++ fe false))) b h0 = true := by kernel_rfl
theorem run_19_1_fft (b : Nat) (h0 : Nat → Option Obj) : run 19 1 (fu ++ (fa false ++ (fb false ++ fe true))) b h0 = true := by kernel_rfl
theorem run_19_1_fff (b : Nat) (h0 : Nat → Option Obj) : run 19 1 (fu ++ (fa false ++ (fb false ++ fe false))) b h0 = true := by kernel_rfl
theorem run_19_2_ttt (b : Nat) (h0 : Nat → Option Obj) : run 19 2 (fu ++ (fa true ++ (fb true ++ fe true))) b h0 = true := by kernel_rfl
theorem run_19_2_tff (b : Nat) (h0 : Nat → Option Obj) : run 19 2 (fu ++ (fa true ++ (fb false ++ fe false))) b h0 = true := by kernel_rfl
theorem run_19_2_ftf (b : Nat) (h0 : Nat → Option Obj) : run 19 2 (fu ++ (fa false ++ (fb true ++ fe false))) b h0 = true := by kernel_rfl
theorem run_19_2_fft (b : Nat) (h0 : Nat → Option Obj) : run 19 2 (fu ++ (fa false ++ (fb false ++ fe true))) b h0 = true := by kernel_rfl
theorem run_19_2_fff (b : Nat) (h0 : Nat → Option Obj) : run 19 2 (fu ++ (fa false ++ (fb false ++ fe false))) b h0 = true := by kernel_rfl
theorem run_20_0_ttt (b : Nat) (h0 : Nat → Option Obj) : run 20 0 (fu ++ (fa true ++ (fb true ++ fe true))) b h0 = true := by kernel_rfl
theorem run_20_0_tff (b : Nat) (h0 : Nat → Option Obj) : run 20 0 (fu ++ (fa true ++ (fb false ++ fe false))) b h0 = true := by kernel_rfl
theorem run_20_0_ftf (b : Nat) (h0 : Nat → Option Obj) : run 20 0 (fu ++ (fa false ++ (fb true ++ fe false))) b h0 = true := by kernel_rfl
end Go.Proofs.YtmkjjmebpbbhlaaDoor.InstrRegisters
