/-
  Layer 11: a loop that counts down tells what it counted: whatever the numbers.
-/
import Derived.Test.YtknpoojkjmgihaaIc0
import Derived.Test.YtknpoojkjmgihaaIc1
import Derived.Test.YtknpoojkjmgihaaIc2
import Derived.Test.YtknpoojkjmgihaaIc3
import Derived.Test.YtknpoojkjmgihaaIc4
import Derived.Test.YtknpoojkjmgihaaIc5
namespace Go.Proofs.Ytknpoojkjmgihaa.IrrunCounts
open Go.Xq Go.RowKit Go.Proofs.Ytknpoojkjmgihaa
theorem walk (a0 a1 : Int) (w0 : (Lit.int .i64 a0).wf = true) (w1 : (Lit.int .i64 a1).wf = true) (W : World) :
    Calls Try.prog 5 #[.int .i64 a0, .int .i64 a1] W fun e W' => e = .returned (.bool true) ∧ Below W.heap.size W W' := by
  have b0 := bnd64 w0
  have b1 := bnd64 w1
  obtain ⟨d0, d1⟩ := pickN_lt a1 (n := 101) (by decide)
  rcases Int.lt_or_le 48 (pickN a1 101) with hd | hd
  · exact law_deep loop_deep run_deep a0 a1 b0 b1 hd W
  · obtain ⟨d, hq⟩ : ∃ d : Nat, pickN a1 101 = (d : Int) := ⟨(pickN a1 101).toNat, by omega⟩
    have hd' : d ≤ 48 := by omega
    clear d0 d1 hd
    match d, hd', hq with
    | 0, _, hq => exact law_low (by decide) loop_0 run_0 a0 a1 b0 b1 hq W
    | 1, _, hq => exact law_low (by decide) loop_1 run_1 a0 a1 b0 b1 hq W
    | 2, _, hq => exact law_low (by decide) loop_2 run_2 a0 a1 b0 b1 hq W
    | 3, _, hq => exact law_low (by decide) loop_3 run_3 a0 a1 b0 b1 hq W
    | 4, _, hq => exact law_low (by decide) loop_4 run_4 a0 a1 b0 b1 hq W
    | 5, _, hq => exact law_low (by decide) loop_5 run_5 a0 a1 b0 b1 hq W
    | 6, _, hq => exact law_low (by decide) loop_6 run_6 a0 a1 b0 b1 hq W
    | 7, _, hq => exact law_low (by decide) loop_7 run_7 a0 a1 b0 b1 hq W
    | 8, _, hq => exact law_low (by decide) loop_8 run_8 a0 a1 b0 b1 hq W
    | 9, _, hq => exact law_low (by decide) loop_9 run_9 a0 a1 b0 b1 hq W
    | 10, _, hq => exact law_low (by decide) loop_10 run_10 a0 a1 b0 b1 hq W
    | 11, _, hq => exact law_low (by decide) loop_11 run_11 a0 a1 b0 b1 hq W
    | 12, _, hq => exact law_low (by decide) loop_12 run_12 a0 a1 b0 b1 hq W
    | 13, _, hq => exact law_low (by decide) loop_13 run_13 a0 a1 b0 b1 hq W
    | 14, _, hq => exact law_low (by decide) loop_14 run_14 a0 a1 b0 b1 hq W
    | 15, _, hq => exact law_low (by decide) loop_15 run_15 a0 a1 b0 b1 hq W
    | 16, _, hq => exact law_low (by decide) loop_16 run_16 a0 a1 b0 b1 hq W
    | 17, _, hq => exact law_low (by decide) loop_17 run_17 a0 a1 b0 b1 hq W
    | 18, _, hq => exact law_low (by decide) loop_18 run_18 a0 a1 b0 b1 hq W
    | 19, _, hq => exact law_low (by decide) loop_19 run_19 a0 a1 b0 b1 hq W
    | 20, _, hq => exact law_low (by decide) loop_20 run_20 a0 a1 b0 b1 hq W
    | 21, _, hq => exact law_low (by decide) loop_21 run_21 a0 a1 b0 b1 hq W
    | 22, _, hq => exact law_low (by decide) loop_22 run_22 a0 a1 b0 b1 hq W
    | 23, _, hq => exact law_low (by decide) loop_23 run_23 a0 a1 b0 b1 hq W
    | 24, _, hq => exact law_low (by decide) loop_24 run_24 a0 a1 b0 b1 hq W
    | 25, _, hq => exact law_low (by decide) loop_25 run_25 a0 a1 b0 b1 hq W
    | 26, _, hq => exact law_low (by decide) loop_26 run_26 a0 a1 b0 b1 hq W
    | 27, _, hq => exact law_low (by decide) loop_27 run_27 a0 a1 b0 b1 hq W
    | 28, _, hq => exact law_low (by decide) loop_28 run_28 a0 a1 b0 b1 hq W
    | 29, _, hq => exact law_low (by decide) loop_29 run_29 a0 a1 b0 b1 hq W
    | 30, _, hq => exact law_low (by decide) loop_30 run_30 a0 a1 b0 b1 hq W
    | 31, _, hq => exact law_low (by decide) loop_31 run_31 a0 a1 b0 b1 hq W
    | 32, _, hq => exact law_low (by decide) loop_32 run_32 a0 a1 b0 b1 hq W
    | 33, _, hq => exact law_low (by decide) loop_33 run_33 a0 a1 b0 b1 hq W
    | 34, _, hq => exact law_low (by decide) loop_34 run_34 a0 a1 b0 b1 hq W
    | 35, _, hq => exact law_low (by decide) loop_35 run_35 a0 a1 b0 b1 hq W
    | 36, _, hq => exact law_low (by decide) loop_36 run_36 a0 a1 b0 b1 hq W
    | 37, _, hq => exact law_low (by decide) loop_37 run_37 a0 a1 b0 b1 hq W
    | 38, _, hq => exact law_low (by decide) loop_38 run_38 a0 a1 b0 b1 hq W
    | 39, _, hq => exact law_low (by decide) loop_39 run_39 a0 a1 b0 b1 hq W
    | 40, _, hq => exact law_low (by decide) loop_40 run_40 a0 a1 b0 b1 hq W
    | 41, _, hq => exact law_low (by decide) loop_41 run_41 a0 a1 b0 b1 hq W
    | 42, _, hq => exact law_low (by decide) loop_42 run_42 a0 a1 b0 b1 hq W
    | 43, _, hq => exact law_low (by decide) loop_43 run_43 a0 a1 b0 b1 hq W
    | 44, _, hq => exact law_low (by decide) loop_44 run_44 a0 a1 b0 b1 hq W
    | 45, _, hq => exact law_low (by decide) loop_45 run_45 a0 a1 b0 b1 hq W
    | 46, _, hq => exact law_low (by decide) loop_46 run_46 a0 a1 b0 b1 hq W
    | 47, _, hq => exact law_low (by decide) loop_47 run_47 a0 a1 b0 b1 hq W
    | 48, _, hq => exact law_low (by decide) loop_48 run_48 a0 a1 b0 b1 hq W
    | d + 49, h, _ => exact absurd h (by omega)
end Go.Proofs.Ytknpoojkjmgihaa.IrrunCounts
