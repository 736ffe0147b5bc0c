/-
  Layer 06: numbers that are printed are told: whatever the numbers.
-/
import Derived.Test.YtggonamheakkkaaGreatDoorPrints0
import Derived.Test.YtggonamheakkkaaGreatDoorPrints1
import Derived.Test.YtggonamheakkkaaGreatDoorPrints2
import Derived.Test.YtggonamheakkkaaGreatDoorPrints3
namespace Go.Proofs.YtggonamheakkkaaGreatDoor.EvalPrints
open Go.Xq Go.RowKit Go.Proofs.YtggonamheakkkaaGreatDoor
theorem walk_nil (a0 : Int) (w0 : (Lit.int .i64 a0).wf = true) (W : World) (hL : laidMetH Tryz.prog Rows.evalPrintsRow.laid W) :
    Calls Tryz.prog 8 #[.slice none 0 0, .int .i64 a0] W fun e W' => e = .returned (.bool true) ∧ Below W.heap.size W W' := by
  have b0 := bnd64 w0
  exact true_at (cxn_ok f0 hL) 3000 (vs := vsA W.heap.size fun k => W.heap[k]?) (vsA_lt _ _) (Nat.le_refl _) (runFX_eq (run_nil _ _)) (I := ints a0 (0 : Nat) fun _ => 0) W (Q := fun _ => .nilIface)
    ⟨f0_ok (len := 0) rfl, trivial, kn_ints b0 (fun _ => by decide)⟩ rfl (laid_at hL _ _) (Nat.le_refl _) (fun _ _ => rfl)
theorem walk (zs : Nat → Int) (hzs : ∀ k, -9223372036854775808 ≤ zs k ∧ zs k ≤ 9223372036854775807) (a0 : Int) (w0 : (Lit.int .i64 a0).wf = true) (bb o len cap : Nat) (cs : Array Value) (et : TypeId) (fz : Nat × Nat) (W : World) (hL : laidMetH Tryz.prog Rows.evalPrintsRow.laid W)
    (hb : W.heap[bb]? = some (.cells cs et fz)) (hc : ∀ k, k < len → cs[o + k]? = some (.int .i64 (zs k))) :
    Calls Tryz.prog 8 #[.slice (some ⟨bb, o, none⟩) len cap, .int .i64 a0] W fun e W' => e = .returned (.bool true) ∧ Below W.heap.size W W' := by
  have b0 := bnd64 w0
  have hlt : bb < W.heap.size := (Array.getElem?_eq_some_iff.1 hb).1
  have fin : ∀ F : List Fact, FactsOk F (ints a0 len zs) → run F W.heap.size (fun k => W.heap[k]?) = true → Calls Tryz.prog 8 #[.slice (some ⟨bb, o, none⟩) len cap, .int .i64 a0] W fun e W' => e = .returned (.bool true) ∧ Below W.heap.size W W' := by
    intro F hF hrun
    exact true_at (cx_ok F hL) 3000 (vs := vsA W.heap.size fun k => W.heap[k]?) (vsA_lt _ _) (Nat.le_refl _) (runFX_eq hrun) (I := ints a0 len zs) W (Q := fun _ => .slice (some ⟨bb, o, none⟩) len cap)
      ⟨hF, ⟨bb, o, len, cap, cs, et, fz, rfl, rfl, hlt, hb, fun k hk hkl => by rw [ints_20 hk]; exact hc k hkl⟩, kn_ints b0 hzs⟩ rfl (laid_at hL _ _) (Nat.le_refl _) (fun _ _ => rfl)
  have hl : len = 0 ∨ len = 1 ∨ len = 2 ∨ len = 3 ∨ len = 4 ∨ len = 5 ∨ len = 6 ∨ len = 7 ∨ len = 8 ∨ len = 9 ∨ len = 10 ∨ len = 11 ∨ len = 12 ∨ len = 13 ∨ len = 14 ∨ len = 15 ∨ len = 16 ∨ len = 17 ∨ len = 18 ∨ len = 19 ∨ len = 20 ∨ 21 ≤ len := by omega
  rcases hl with h | h | h | h | h | h | h | h | h | h | h | h | h | h | h | h | h | h | h | h | h | h
  · exact fin f0 (f0_ok h) (run_0 _ _)
  · exact fin f1 (f1_ok h) (run_1 _ _)
  · exact fin f2 (f2_ok h) (run_2 _ _)
  · exact fin f3 (f3_ok h) (run_3 _ _)
  · exact fin f4 (f4_ok h) (run_4 _ _)
  · exact fin f5 (f5_ok h) (run_5 _ _)
  · exact fin f6 (f6_ok h) (run_6 _ _)
  · exact fin f7 (f7_ok h) (run_7 _ _)
  · exact fin f8 (f8_ok h) (run_8 _ _)
  · exact fin f9 (f9_ok h) (run_9 _ _)
  · exact fin f10 (f10_ok h) (run_10 _ _)
  · exact fin f11 (f11_ok h) (run_11 _ _)
  · exact fin f12 (f12_ok h) (run_12 _ _)
  · exact fin f13 (f13_ok h) (run_13 _ _)
  · exact fin f14 (f14_ok h) (run_14 _ _)
  · exact fin f15 (f15_ok h) (run_15 _ _)
  · exact fin f16 (f16_ok h) (run_16 _ _)
  · exact fin f17 (f17_ok h) (run_17 _ _)
  · exact fin f18 (f18_ok h) (run_18 _ _)
  · exact fin f19 (f19_ok h) (run_19 _ _)
  · exact fin f20 (f20_ok h) (run_20 _ _)
  · exact fin f21 (f21_ok h) (run_21 _ _)
end Go.Proofs.YtggonamheakkkaaGreatDoor.EvalPrints
