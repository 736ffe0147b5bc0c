/-
  Layer 9: each word of the arrays has its own number: whatever the sizes.
-/
import Derived.Test.YteehdbbohjhnoaaGreatDoorWords0
import Derived.Test.YteehdbbohjhnoaaGreatDoorWords1
import Derived.Test.YteehdbbohjhnoaaGreatDoorWords2
import Derived.Test.YteehdbbohjhnoaaGreatDoorWordsF
namespace Go.Proofs.YteehdbbohjhnoaaGreatDoor.MachWords
open Go.Xq Go.RowKit Go.Proofs.YteehdbbohjhnoaaGreatDoor
theorem pick_in (x : Int) : 0 ≤ pickN x 1000 ∧ pickN x 1000 < 1000 := pickN_lt x (n := 1000) (by decide)
theorem walk_nil (a0 : Int) (w0 : (Lit.int .i64 a0).wf = true) (W : World) (hL : laidMetH Tryz.prog Rows.machWordsRow.laid W) :
    Calls Tryz.prog 7 #[.slice none 0 0, .int .i64 a0] W fun e W' => e = .returned (.bool true) ∧ Below W.heap.size W W' := by
  have b0 := bnd64 w0
  have hz := pickN_lt a0 (n := 4096) (by decide)
  have e0 : (-9223372036854775808 : Int) ≤ 0 ∧ (0 : Int) ≤ 9223372036854775807 := by decide
  have hf := f0_ok (a0 := a0) (n := 0) (x0 := 0) (x1 := 0) (x2 := 0) (x3 := 0) (x4 := 0) (x5 := 0) (z := pickN a0 4096) rfl (pick_in 0) (pick_in 0) (pick_in 0) (pick_in 0) (pick_in 0) (pick_in 0) hz
  exact true_at (cxn_ok f0 hL) 3000 (vs := vsA W.heap.size fun k => W.heap[k]?) (vsA_lt _ _) (Nat.le_refl _) (run_nil _ _) (I := _) W (Q := fun _ => .nilIface)
    ⟨hf, trivial, b0, rfl, e0, rfl, e0, rfl, e0, rfl, e0, rfl, e0, rfl, e0, rfl⟩ rfl (laid_at hL _ _) (Nat.le_refl _) (fun _ _ => rfl)
theorem walk (zs : Nat → Int) (hzs : ∀ k, -9223372036854775808 ≤ zs k ∧ zs k ≤ 9223372036854775807) (a0 : Int) (w0 : (Lit.int .i64 a0).wf = true) (bb o len cap : Nat) (cs : Array Value) (et : TypeId) (fz : Nat × Nat) (W : World) (hL : laidMetH Tryz.prog Rows.machWordsRow.laid W)
    (hb : W.heap[bb]? = some (.cells cs et fz)) (hc : ∀ k, k < len → cs[o + k]? = some (.int .i64 (zs k))) :
    Calls Tryz.prog 7 #[.slice (some ⟨bb, o, none⟩) len cap, .int .i64 a0] W fun e W' => e = .returned (.bool true) ∧ Below W.heap.size W W' := by
  have b0 := bnd64 w0
  have hz := pickN_lt a0 (n := 4096) (by decide)
  have hlt : bb < W.heap.size := (Array.getElem?_eq_some_iff.1 hb).1
  have fin : ∀ F : List Fact, FactsOk F (fun j => match j with | 0 => a0 | 10 => (len : Int) | 20 => zs 0 | 21 => zs 1 | 22 => zs 2 | 23 => zs 3 | 24 => zs 4 | 25 => zs 5 | 30 => pickN (zs 0) 1000 | 31 => pickN (zs 1) 1000 | 32 => pickN (zs 2) 1000 | 33 => pickN (zs 3) 1000 | 34 => pickN (zs 4) 1000 | 35 => pickN (zs 5) 1000 | 40 => pickN a0 4096 | _ => 0) →
      run F W.heap.size (fun k => W.heap[k]?) = true → Calls Tryz.prog 7 #[.slice (some ⟨bb, o, none⟩) len cap, .int .i64 a0] W fun e W' => e = .returned (.bool true) ∧ Below W.heap.size W W' := by
    intro F hF hrun
    refine true_at (cx_ok F hL) 3000 (vs := vsA W.heap.size fun k => W.heap[k]?) (vsA_lt _ _) (Nat.le_refl _) hrun (I := _) W (Q := fun _ => .slice (some ⟨bb, o, none⟩) len cap)
      ⟨hF, ⟨bb, o, len, cap, cs, et, fz, rfl, rfl, hlt, hb, ?_⟩, b0, rfl, hzs 0, rfl, hzs 1, rfl, hzs 2, rfl, hzs 3, rfl, hzs 4, rfl, hzs 5, rfl⟩ rfl (laid_at hL _ _) (Nat.le_refl _) (fun _ _ => rfl)
    intro k hk hkl
    have := hc k hkl
    match k, hk with
    | 0, _ => exact this
    | 1, _ => exact this
    | 2, _ => exact this
    | 3, _ => exact this
    | 4, _ => exact this
    | 5, _ => exact this
    | k + 6, h => omega
  have hl : len = 0 ∨ len = 1 ∨ len = 2 ∨ len = 3 ∨ len = 4 ∨ len = 5 ∨ len = 6 ∨ 7 ≤ len := by omega
  rcases hl with h | h | h | h | h | h | h | h
  · exact fin f0 (f0_ok (by omega) (pick_in _) (pick_in _) (pick_in _) (pick_in _) (pick_in _) (pick_in _) hz) (run_0 _ _)
  · exact fin f1 (f1_ok (by omega) (pick_in _) (pick_in _) (pick_in _) (pick_in _) (pick_in _) (pick_in _) hz) (run_1 _ _)
  · exact fin f2 (f2_ok (by omega) (pick_in _) (pick_in _) (pick_in _) (pick_in _) (pick_in _) (pick_in _) hz) (run_2 _ _)
  · exact fin f3 (f3_ok (by omega) (pick_in _) (pick_in _) (pick_in _) (pick_in _) (pick_in _) (pick_in _) hz) (run_3 _ _)
  · exact fin f4 (f4_ok (by omega) (pick_in _) (pick_in _) (pick_in _) (pick_in _) (pick_in _) (pick_in _) hz) (run_4 _ _)
  · exact fin f5 (f5_ok (by omega) (pick_in _) (pick_in _) (pick_in _) (pick_in _) (pick_in _) (pick_in _) hz) (run_5 _ _)
  · exact fin f6 (f6_ok (by omega) (pick_in _) (pick_in _) (pick_in _) (pick_in _) (pick_in _) (pick_in _) hz) (run_6 _ _)
  · exact fin f7 (f7_ok (by omega) (pick_in _) (pick_in _) (pick_in _) (pick_in _) (pick_in _) (pick_in _) hz) (run_7 _ _)
end Go.Proofs.YteehdbbohjhnoaaGreatDoor.MachWords
