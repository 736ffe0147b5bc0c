/-
  Layer 06: what was stored is told, at its place and nowhere else: whatever the numbers.
-/
import Derived.Test.YtggonamheakkkaaGreatDoorArr0
import Derived.Test.YtggonamheakkkaaGreatDoorArr1
import Derived.Test.YtggonamheakkkaaGreatDoorArr2
namespace Go.Proofs.YtggonamheakkkaaGreatDoor.EvalArrays
open Go.Xq Go.RowKit Go.Proofs.YtggonamheakkkaaGreatDoor
theorem row (p : Int) {q : Int} (h0 : 0 ≤ q) (h1 : q < 10) (b : Nat) (hp : Nat → Option Obj) (H : ∀ k : Fin 10, run p (.lit (k.val : Int)) [] b hp = true) : run p (.lit q) [] b hp = true := by
  have := H ⟨q.toNat, by omega⟩
  rwa [show ((q.toNat : Nat) : Int) = q by omega] at this
theorem row_2 (b : Nat) (h : Nat → Option Obj) : ∀ k : Fin 10, run 2 (.lit (k.val : Int)) [] b h = true
  | ⟨0, _⟩ => run_2_0 b h
  | ⟨1, _⟩ => run_2_1 b h
  | ⟨2, _⟩ => run_2_2 b h
  | ⟨3, _⟩ => run_2_3 b h
  | ⟨4, _⟩ => run_2_4 b h
  | ⟨5, _⟩ => run_2_5 b h
  | ⟨6, _⟩ => run_2_6 b h
  | ⟨7, _⟩ => run_2_7 b h
  | ⟨8, _⟩ => run_2_8 b h
  | ⟨9, _⟩ => run_2_9 b h
  | ⟨k + 10, h⟩ => absurd h (by omega)
theorem row_3 (b : Nat) (h : Nat → Option Obj) : ∀ k : Fin 10, run 3 (.lit (k.val : Int)) [] b h = true
  | ⟨0, _⟩ => run_3_0 b h
  | ⟨1, _⟩ => run_3_1 b h
  | ⟨2, _⟩ => run_3_2 b h
  | ⟨3, _⟩ => run_3_3 b h
  | ⟨4, _⟩ => run_3_4 b h
  | ⟨5, _⟩ => run_3_5 b h
  | ⟨6, _⟩ => run_3_6 b h
  | ⟨7, _⟩ => run_3_7 b h
  | ⟨8, _⟩ => run_3_8 b h
  | ⟨9, _⟩ => run_3_9 b h
  | ⟨k + 10, h⟩ => absurd h (by omega)
theorem row_4 (b : Nat) (h : Nat → Option Obj) : ∀ k : Fin 10, run 4 (.lit (k.val : Int)) [] b h = true
  | ⟨0, _⟩ => run_4_0 b h
  | ⟨1, _⟩ => run_4_1 b h
  | ⟨2, _⟩ => run_4_2 b h
  | ⟨3, _⟩ => run_4_3 b h
  | ⟨4, _⟩ => run_4_4 b h
  | ⟨5, _⟩ => run_4_5 b h
  | ⟨6, _⟩ => run_4_6 b h
  | ⟨7, _⟩ => run_4_7 b h
  | ⟨8, _⟩ => run_4_8 b h
  | ⟨9, _⟩ => run_4_9 b h
  | ⟨k + 10, h⟩ => absurd h (by omega)
theorem row_5 (b : Nat) (h : Nat → Option Obj) : ∀ k : Fin 10, run 5 (.lit (k.val : Int)) [] b h = true
  | ⟨0, _⟩ => run_5_0 b h
  | ⟨1, _⟩ => run_5_1 b h
  | ⟨2, _⟩ => run_5_2 b h
  | ⟨3, _⟩ => run_5_3 b h
  | ⟨4, _⟩ => run_5_4 b h
  | ⟨5, _⟩ => run_5_5 b h
  | ⟨6, _⟩ => run_5_6 b h
  | ⟨7, _⟩ => run_5_7 b h
  | ⟨8, _⟩ => run_5_8 b h
  | ⟨9, _⟩ => run_5_9 b h
  | ⟨k + 10, h⟩ => absurd h (by omega)
theorem row_6 (b : Nat) (h : Nat → Option Obj) : ∀ k : Fin 10, run 6 (.lit (k.val : Int)) [] b h = true
  | ⟨0, _⟩ => run_6_0 b h
  | ⟨1, _⟩ => run_6_1 b h
  | ⟨2, _⟩ => run_6_2 b h
  | ⟨3, _⟩ => run_6_3 b h
  | ⟨4, _⟩ => run_6_4 b h
  | ⟨5, _⟩ => run_6_5 b h
  | ⟨6, _⟩ => run_6_6 b h
  | ⟨7, _⟩ => run_6_7 b h
  | ⟨8, _⟩ => run_6_8 b h
  | ⟨9, _⟩ => run_6_9 b h
  | ⟨k + 10, h⟩ => absurd h (by omega)
theorem row_7 (b : Nat) (h : Nat → Option Obj) : ∀ k : Fin 10, run 7 (.lit (k.val : Int)) [] b h = true
  | ⟨0, _⟩ => run_7_0 b h
  | ⟨1, _⟩ => run_7_1 b h
  | ⟨2, _⟩ => run_7_2 b h
  | ⟨3, _⟩ => run_7_3 b h
  | ⟨4, _⟩ => run_7_4 b h
  | ⟨5, _⟩ => run_7_5 b h
  | ⟨6, _⟩ => run_7_6 b h
  | ⟨7, _⟩ => run_7_7 b h
  | ⟨8, _⟩ => run_7_8 b h
  | ⟨9, _⟩ => run_7_9 b h
  | ⟨k + 10, h⟩ => absurd h (by omega)
theorem row_8 (b : Nat) (h : Nat → Option Obj) : ∀ k : Fin 10, run 8 (.lit (k.val : Int)) [] b h = true
  | ⟨0, _⟩ => run_8_0 b h
  | ⟨1, _⟩ => run_8_1 b h
  | ⟨2, _⟩ => run_8_2 b h
  | ⟨3, _⟩ => run_8_3 b h
  | ⟨4, _⟩ => run_8_4 b h
  | ⟨5, _⟩ => run_8_5 b h
  | ⟨6, _⟩ => run_8_6 b h
  | ⟨7, _⟩ => run_8_7 b h
  | ⟨8, _⟩ => run_8_8 b h
  | ⟨9, _⟩ => run_8_9 b h
  | ⟨k + 10, h⟩ => absurd h (by omega)
theorem row_9 (b : Nat) (h : Nat → Option Obj) : ∀ k : Fin 10, run 9 (.lit (k.val : Int)) [] b h = true
  | ⟨0, _⟩ => run_9_0 b h
  | ⟨1, _⟩ => run_9_1 b h
  | ⟨2, _⟩ => run_9_2 b h
  | ⟨3, _⟩ => run_9_3 b h
  | ⟨4, _⟩ => run_9_4 b h
  | ⟨5, _⟩ => run_9_5 b h
  | ⟨6, _⟩ => run_9_6 b h
  | ⟨7, _⟩ => run_9_7 b h
  | ⟨8, _⟩ => run_9_8 b h
  | ⟨9, _⟩ => run_9_9 b h
  | ⟨k + 10, h⟩ => absurd h (by omega)
theorem row_10 (b : Nat) (h : Nat → Option Obj) : ∀ k : Fin 10, run 10 (.lit (k.val : Int)) [] b h = true
  | ⟨0, _⟩ => run_10_0 b h
  | ⟨1, _⟩ => run_10_1 b h
  | ⟨2, _⟩ => run_10_2 b h
  | ⟨3, _⟩ => run_10_3 b h
  | ⟨4, _⟩ => run_10_4 b h
  | ⟨5, _⟩ => run_10_5 b h
  | ⟨6, _⟩ => run_10_6 b h
  | ⟨7, _⟩ => run_10_7 b h
  | ⟨8, _⟩ => run_10_8 b h
  | ⟨9, _⟩ => run_10_9 b h
  | ⟨k + 10, h⟩ => absurd h (by omega)
theorem row_11 (b : Nat) (h : Nat → Option Obj) : ∀ k : Fin 10, run 11 (.lit (k.val : Int)) [] b h = true
  | ⟨0, _⟩ => run_11_0 b h
  | ⟨1, _⟩ => run_11_1 b h
  | ⟨2, _⟩ => run_11_2 b h
  | ⟨3, _⟩ => run_11_3 b h
  | ⟨4, _⟩ => run_11_4 b h
  | ⟨5, _⟩ => run_11_5 b h
  | ⟨6, _⟩ => run_11_6 b h
  | ⟨7, _⟩ => run_11_7 b h
  | ⟨8, _⟩ => run_11_8 b h
  | ⟨9, _⟩ => run_11_9 b h
  | ⟨k + 10, h⟩ => absurd h (by omega)
theorem walk (a0 a1 a2 : Int) (w0 : (Lit.int .i64 a0).wf = true) (w1 : (Lit.int .i64 a1).wf = true) (w2 : (Lit.int .i64 a2).wf = true) (W : World) (hL : laidMetH Tryz.prog Rows.evalArraysRow.laid W) :
    Calls Tryz.prog 7 #[.int .i64 a0, .int .i64 a1, .int .i64 a2] W fun e W' => e = .returned (.bool true) ∧ Below W.heap.size W W' := by
  have b0 := bnd64 w0
  have b1 := bnd64 w1
  obtain ⟨k0, k1⟩ := pickN_lt a0 (n := 14) (by decide)
  obtain ⟨l0, l1⟩ := pickN_lt a1 (n := 10) (by decide)
  generalize hk : pickN a0 14 = p at k0 k1
  generalize hl : pickN a1 10 = q at l0 l1
  have near : run p (.lit q) [] W.heap.size (fun k => W.heap[k]?) = true → Calls Tryz.prog 7 #[.int .i64 a0, .int .i64 a1, .int .i64 a2] W fun e W' => e = .returned (.bool true) ∧ Below W.heap.size W W' := fun hrun =>
    true_at (cx_ok p (.lit q) [] hL) 3000 (vs := vsA W.heap.size fun k => W.heap[k]?) (vsA_lt _ _) (Nat.le_refl _) (runFX_eq hrun) (I := fun j => match j with | 0 => a0 | 1 => a1 | 2 => a2 | _ => q) W (Q := fun _ => .nilIface) ⟨facts_nil, trivial, b0, hk, b1, hl⟩ rfl (laid_at hL _ _) (Nat.le_refl _) (fun _ _ => rfl)
  have far : run p (.var 3) [] W.heap.size (fun k => W.heap[k]?) = true → Calls Tryz.prog 7 #[.int .i64 a0, .int .i64 a1, .int .i64 a2] W fun e W' => e = .returned (.bool true) ∧ Below W.heap.size W W' := fun hrun =>
    true_at (cx_ok p (.var 3) [] hL) 3000 (vs := vsA W.heap.size fun k => W.heap[k]?) (vsA_lt _ _) (Nat.le_refl _) (runFX_eq hrun) (I := fun j => match j with | 0 => a0 | 1 => a1 | 2 => a2 | _ => q) W (Q := fun _ => .nilIface) ⟨facts_nil, trivial, b0, hk, b1, hl⟩ rfl (laid_at hL _ _) (Nat.le_refl _) (fun _ _ => rfl)
  have hp : p = 0 ∨ p = 1 ∨ p = 2 ∨ p = 3 ∨ p = 4 ∨ p = 5 ∨ p = 6 ∨ p = 7 ∨ p = 8 ∨ p = 9 ∨ p = 10 ∨ p = 11 ∨ p = 12 ∨ p = 13 := by omega
  clear hk hl
  rcases hp with rfl | rfl | rfl | rfl | rfl | rfl | rfl | rfl | rfl | rfl | rfl | rfl | rfl | rfl
  · exact far (run_0 _ _)
  · exact far (run_1 _ _)
  · exact near (row 2 l0 l1 _ _ (row_2 _ _))
  · exact near (row 3 l0 l1 _ _ (row_3 _ _))
  · exact near (row 4 l0 l1 _ _ (row_4 _ _))
  · exact near (row 5 l0 l1 _ _ (row_5 _ _))
  · exact near (row 6 l0 l1 _ _ (row_6 _ _))
  · exact near (row 7 l0 l1 _ _ (row_7 _ _))
  · exact near (row 8 l0 l1 _ _ (row_8 _ _))
  · exact near (row 9 l0 l1 _ _ (row_9 _ _))
  · exact near (row 10 l0 l1 _ _ (row_10 _ _))
  · exact near (row 11 l0 l1 _ _ (row_11 _ _))
  · exact far (run_12 _ _)
  · exact far (run_13 _ _)
end Go.Proofs.YtggonamheakkkaaGreatDoor.EvalArrays
