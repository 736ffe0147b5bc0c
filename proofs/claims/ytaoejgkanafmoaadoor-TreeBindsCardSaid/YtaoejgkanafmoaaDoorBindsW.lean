/-
  Layer 03: what binds more strongly needs no parentheses: whatever the numbers.
-/
import Derived.Test.YtaoejgkanafmoaaDoorBinds0
import Derived.Test.YtaoejgkanafmoaaDoorBinds1
import Derived.Test.YtaoejgkanafmoaaDoorBinds2
import Derived.Test.YtaoejgkanafmoaaDoorBinds3
import Derived.Test.YtaoejgkanafmoaaDoorBinds4
import Derived.Test.YtaoejgkanafmoaaDoorBinds5
import Derived.Test.YtaoejgkanafmoaaDoorBinds6
import Derived.Test.YtaoejgkanafmoaaDoorBinds7
import Derived.Test.YtaoejgkanafmoaaDoorBinds8
import Derived.Test.YtaoejgkanafmoaaDoorBinds9
import Derived.Test.YtaoejgkanafmoaaDoorBinds10
import Derived.Test.YtaoejgkanafmoaaDoorBinds11
import Derived.Test.YtaoejgkanafmoaaDoorBinds12
import Derived.Test.YtaoejgkanafmoaaDoorBinds13
import Derived.Test.YtaoejgkanafmoaaDoorBinds14
import Derived.Test.YtaoejgkanafmoaaDoorBinds15
namespace Go.Proofs.YtaoejgkanafmoaaDoor.TreeBinds
open Go.Xq Go.RowKit Go.Proofs.YtaoejgkanafmoaaDoor
theorem row (p : Int) {q : Int} (h0 : 0 ≤ q) (h1 : q < 16) (b : Nat) (hp : Nat → Option Obj) (H : ∀ k : Fin 16, run p (k.val : Int) [] b hp = true) : run p q [] b hp = true := by
  have := H ⟨q.toNat, by omega⟩
  rwa [show ((q.toNat : Nat) : Int) = q by omega] at this
theorem row_0 (b : Nat) (h : Nat → Option Obj) : ∀ k : Fin 16, run 0 (k.val : Int) [] b h = true
  | ⟨0, _⟩ => run_0_0 b h
  | ⟨1, _⟩ => run_0_1 b h
  | ⟨2, _⟩ => run_0_2 b h
  | ⟨3, _⟩ => run_0_3 b h
  | ⟨4, _⟩ => run_0_4 b h
  | ⟨5, _⟩ => run_0_5 b h
  | ⟨6, _⟩ => run_0_6 b h
  | ⟨7, _⟩ => run_0_7 b h
  | ⟨8, _⟩ => run_0_8 b h
  | ⟨9, _⟩ => run_0_9 b h
  | ⟨10, _⟩ => run_0_10 b h
  | ⟨11, _⟩ => run_0_11 b h
  | ⟨12, _⟩ => run_0_12 b h
  | ⟨13, _⟩ => run_0_13 b h
  | ⟨14, _⟩ => run_0_14 b h
  | ⟨15, _⟩ => run_0_15 b h
  | ⟨k + 16, h⟩ => absurd h (by omega)
theorem row_1 (b : Nat) (h : Nat → Option Obj) : ∀ k : Fin 16, run 1 (k.val : Int) [] b h = true
  | ⟨0, _⟩ => run_1_0 b h
  | ⟨1, _⟩ => run_1_1 b h
  | ⟨2, _⟩ => run_1_2 b h
  | ⟨3, _⟩ => run_1_3 b h
  | ⟨4, _⟩ => run_1_4 b h
  | ⟨5, _⟩ => run_1_5 b h
  | ⟨6, _⟩ => run_1_6 b h
  | ⟨7, _⟩ => run_1_7 b h
  | ⟨8, _⟩ => run_1_8 b h
  | ⟨9, _⟩ => run_1_9 b h
  | ⟨10, _⟩ => run_1_10 b h
  | ⟨11, _⟩ => run_1_11 b h
  | ⟨12, _⟩ => run_1_12 b h
  | ⟨13, _⟩ => run_1_13 b h
  | ⟨14, _⟩ => run_1_14 b h
  | ⟨15, _⟩ => run_1_15 b h
  | ⟨k + 16, h⟩ => absurd h (by omega)
theorem row_2 (b : Nat) (h : Nat → Option Obj) : ∀ k : Fin 16, run 2 (k.val : Int) [] b h = true
  | ⟨0, _⟩ => run_2_0 b h
  | ⟨1, _⟩ => run_2_1 b h
  | ⟨2, _⟩ => run_2_2 b h
  | ⟨3, _⟩ => run_2_3 b h
  | ⟨4, _⟩ => run_2_4 b h
  | ⟨5, _⟩ => run_2_5 b h
  | ⟨6, _⟩ => run_2_6 b h
  | ⟨7, _⟩ => run_2_7 b h
  | ⟨8, _⟩ => run_2_8 b h
  | ⟨9, _⟩ => run_2_9 b h
  | ⟨10, _⟩ => run_2_10 b h
  | ⟨11, _⟩ => run_2_11 b h
  | ⟨12, _⟩ => run_2_12 b h
  | ⟨13, _⟩ => run_2_13 b h
  | ⟨14, _⟩ => run_2_14 b h
  | ⟨15, _⟩ => run_2_15 b h
  | ⟨k + 16, h⟩ => absurd h (by omega)
theorem row_3 (b : Nat) (h : Nat → Option Obj) : ∀ k : Fin 16, run 3 (k.val : Int) [] b h = true
  | ⟨0, _⟩ => run_3_0 b h
  | ⟨1, _⟩ => run_3_1 b h
  | ⟨2, _⟩ => run_3_2 b h
  | ⟨3, _⟩ => run_3_3 b h
  | ⟨4, _⟩ => run_3_4 b h
  | ⟨5, _⟩ => run_3_5 b h
  | ⟨6, _⟩ => run_3_6 b h
  | ⟨7, _⟩ => run_3_7 b h
  | ⟨8, _⟩ => run_3_8 b h
  | ⟨9, _⟩ => run_3_9 b h
  | ⟨10, _⟩ => run_3_10 b h
  | ⟨11, _⟩ => run_3_11 b h
  | ⟨12, _⟩ => run_3_12 b h
  | ⟨13, _⟩ => run_3_13 b h
  | ⟨14, _⟩ => run_3_14 b h
  | ⟨15, _⟩ => run_3_15 b h
  | ⟨k + 16, h⟩ => absurd h (by omega)
theorem row_4 (b : Nat) (h : Nat → Option Obj) : ∀ k : Fin 16, run 4 (k.val : Int) [] b h = true
  | ⟨0, _⟩ => run_4_0 b h
  | ⟨1, _⟩ => run_4_1 b h
  | ⟨2, _⟩ => run_4_2 b h
  | ⟨3, _⟩ => run_4_3 b h
  | ⟨4, _⟩ => run_4_4 b h
  | ⟨5, _⟩ => run_4_5 b h
  | ⟨6, _⟩ => run_4_6 b h
  | ⟨7, _⟩ => run_4_7 b h
  | ⟨8, _⟩ => run_4_8 b h
  | ⟨9, _⟩ => run_4_9 b h
  | ⟨10, _⟩ => run_4_10 b h
  | ⟨11, _⟩ => run_4_11 b h
  | ⟨12, _⟩ => run_4_12 b h
  | ⟨13, _⟩ => run_4_13 b h
  | ⟨14, _⟩ => run_4_14 b h
  | ⟨15, _⟩ => run_4_15 b h
  | ⟨k + 16, h⟩ => absurd h (by omega)
theorem row_5 (b : Nat) (h : Nat → Option Obj) : ∀ k : Fin 16, run 5 (k.val : Int) [] b h = true
  | ⟨0, _⟩ => run_5_0 b h
  | ⟨1, _⟩ => run_5_1 b h
  | ⟨2, _⟩ => run_5_2 b h
  | ⟨3, _⟩ => run_5_3 b h
  | ⟨4, _⟩ => run_5_4 b h
  | ⟨5, _⟩ => run_5_5 b h
  | ⟨6, _⟩ => run_5_6 b h
  | ⟨7, _⟩ => run_5_7 b h
  | ⟨8, _⟩ => run_5_8 b h
  | ⟨9, _⟩ => run_5_9 b h
  | ⟨10, _⟩ => run_5_10 b h
  | ⟨11, _⟩ => run_5_11 b h
  | ⟨12, _⟩ => run_5_12 b h
  | ⟨13, _⟩ => run_5_13 b h
  | ⟨14, _⟩ => run_5_14 b h
  | ⟨15, _⟩ => run_5_15 b h
  | ⟨k + 16, h⟩ => absurd h (by omega)
theorem row_6 (b : Nat) (h : Nat → Option Obj) : ∀ k : Fin 16, run 6 (k.val : Int) [] b h = true
  | ⟨0, _⟩ => run_6_0 b h
  | ⟨1, _⟩ => run_6_1 b h
  | ⟨2, _⟩ => run_6_2 b h
  | ⟨3, _⟩ => run_6_3 b h
  | ⟨4, _⟩ => run_6_4 b h
  | ⟨5, _⟩ => run_6_5 b h
  | ⟨6, _⟩ => run_6_6 b h
  | ⟨7, _⟩ => run_6_7 b h
  | ⟨8, _⟩ => run_6_8 b h
  | ⟨9, _⟩ => run_6_9 b h
  | ⟨10, _⟩ => run_6_10 b h
  | ⟨11, _⟩ => run_6_11 b h
  | ⟨12, _⟩ => run_6_12 b h
  | ⟨13, _⟩ => run_6_13 b h
  | ⟨14, _⟩ => run_6_14 b h
  | ⟨15, _⟩ => run_6_15 b h
  | ⟨k + 16, h⟩ => absurd h (by omega)
theorem row_7 (b : Nat) (h : Nat → Option Obj) : ∀ k : Fin 16, run 7 (k.val : Int) [] b h = true
  | ⟨0, _⟩ => run_7_0 b h
  | ⟨1, _⟩ => run_7_1 b h
  | ⟨2, _⟩ => run_7_2 b h
  | ⟨3, _⟩ => run_7_3 b h
  | ⟨4, _⟩ => run_7_4 b h
  | ⟨5, _⟩ => run_7_5 b h
  | ⟨6, _⟩ => run_7_6 b h
  | ⟨7, _⟩ => run_7_7 b h
  | ⟨8, _⟩ => run_7_8 b h
  | ⟨9, _⟩ => run_7_9 b h
  | ⟨10, _⟩ => run_7_10 b h
  | ⟨11, _⟩ => run_7_11 b h
  | ⟨12, _⟩ => run_7_12 b h
  | ⟨13, _⟩ => run_7_13 b h
  | ⟨14, _⟩ => run_7_14 b h
  | ⟨15, _⟩ => run_7_15 b h
  | ⟨k + 16, h⟩ => absurd h (by omega)
theorem row_8 (b : Nat) (h : Nat → Option Obj) : ∀ k : Fin 16, run 8 (k.val : Int) [] b h = true
  | ⟨0, _⟩ => run_8_0 b h
  | ⟨1, _⟩ => run_8_1 b h
  | ⟨2, _⟩ => run_8_2 b h
  | ⟨3, _⟩ => run_8_3 b h
  | ⟨4, _⟩ => run_8_4 b h
  | ⟨5, _⟩ => run_8_5 b h
  | ⟨6, _⟩ => run_8_6 b h
  | ⟨7, _⟩ => run_8_7 b h
  | ⟨8, _⟩ => run_8_8 b h
  | ⟨9, _⟩ => run_8_9 b h
  | ⟨10, _⟩ => run_8_10 b h
  | ⟨11, _⟩ => run_8_11 b h
  | ⟨12, _⟩ => run_8_12 b h
  | ⟨13, _⟩ => run_8_13 b h
  | ⟨14, _⟩ => run_8_14 b h
  | ⟨15, _⟩ => run_8_15 b h
  | ⟨k + 16, h⟩ => absurd h (by omega)
theorem row_9 (b : Nat) (h : Nat → Option Obj) : ∀ k : Fin 16, run 9 (k.val : Int) [] b h = true
  | ⟨0, _⟩ => run_9_0 b h
  | ⟨1, _⟩ => run_9_1 b h
  | ⟨2, _⟩ => run_9_2 b h
  | ⟨3, _⟩ => run_9_3 b h
  | ⟨4, _⟩ => run_9_4 b h
  | ⟨5, _⟩ => run_9_5 b h
  | ⟨6, _⟩ => run_9_6 b h
  | ⟨7, _⟩ => run_9_7 b h
  | ⟨8, _⟩ => run_9_8 b h
  | ⟨9, _⟩ => run_9_9 b h
  | ⟨10, _⟩ => run_9_10 b h
  | ⟨11, _⟩ => run_9_11 b h
  | ⟨12, _⟩ => run_9_12 b h
  | ⟨13, _⟩ => run_9_13 b h
  | ⟨14, _⟩ => run_9_14 b h
  | ⟨15, _⟩ => run_9_15 b h
  | ⟨k + 16, h⟩ => absurd h (by omega)
theorem row_10 (b : Nat) (h : Nat → Option Obj) : ∀ k : Fin 16, run 10 (k.val : Int) [] b h = true
  | ⟨0, _⟩ => run_10_0 b h
  | ⟨1, _⟩ => run_10_1 b h
  | ⟨2, _⟩ => run_10_2 b h
  | ⟨3, _⟩ => run_10_3 b h
  | ⟨4, _⟩ => run_10_4 b h
  | ⟨5, _⟩ => run_10_5 b h
  | ⟨6, _⟩ => run_10_6 b h
  | ⟨7, _⟩ => run_10_7 b h
  | ⟨8, _⟩ => run_10_8 b h
  | ⟨9, _⟩ => run_10_9 b h
  | ⟨10, _⟩ => run_10_10 b h
  | ⟨11, _⟩ => run_10_11 b h
  | ⟨12, _⟩ => run_10_12 b h
  | ⟨13, _⟩ => run_10_13 b h
  | ⟨14, _⟩ => run_10_14 b h
  | ⟨15, _⟩ => run_10_15 b h
  | ⟨k + 16, h⟩ => absurd h (by omega)
theorem row_11 (b : Nat) (h : Nat → Option Obj) : ∀ k : Fin 16, run 11 (k.val : Int) [] b h = true
  | ⟨0, _⟩ => run_11_0 b h
  | ⟨1, _⟩ => run_11_1 b h
  | ⟨2, _⟩ => run_11_2 b h
  | ⟨3, _⟩ => run_11_3 b h
  | ⟨4, _⟩ => run_11_4 b h
  | ⟨5, _⟩ => run_11_5 b h
  | ⟨6, _⟩ => run_11_6 b h
  | ⟨7, _⟩ => run_11_7 b h
  | ⟨8, _⟩ => run_11_8 b h
  | ⟨9, _⟩ => run_11_9 b h
  | ⟨10, _⟩ => run_11_10 b h
  | ⟨11, _⟩ => run_11_11 b h
  | ⟨12, _⟩ => run_11_12 b h
  | ⟨13, _⟩ => run_11_13 b h
  | ⟨14, _⟩ => run_11_14 b h
  | ⟨15, _⟩ => run_11_15 b h
  | ⟨k + 16, h⟩ => absurd h (by omega)
theorem row_12 (b : Nat) (h : Nat → Option Obj) : ∀ k : Fin 16, run 12 (k.val : Int) [] b h = true
  | ⟨0, _⟩ => run_12_0 b h
  | ⟨1, _⟩ => run_12_1 b h
  | ⟨2, _⟩ => run_12_2 b h
  | ⟨3, _⟩ => run_12_3 b h
  | ⟨4, _⟩ => run_12_4 b h
  | ⟨5, _⟩ => run_12_5 b h
  | ⟨6, _⟩ => run_12_6 b h
  | ⟨7, _⟩ => run_12_7 b h
  | ⟨8, _⟩ => run_12_8 b h
  | ⟨9, _⟩ => run_12_9 b h
  | ⟨10, _⟩ => run_12_10 b h
  | ⟨11, _⟩ => run_12_11 b h
  | ⟨12, _⟩ => run_12_12 b h
  | ⟨13, _⟩ => run_12_13 b h
  | ⟨14, _⟩ => run_12_14 b h
  | ⟨15, _⟩ => run_12_15 b h
  | ⟨k + 16, h⟩ => absurd h (by omega)
theorem row_13 (b : Nat) (h : Nat → Option Obj) : ∀ k : Fin 16, run 13 (k.val : Int) [] b h = true
  | ⟨0, _⟩ => run_13_0 b h
  | ⟨1, _⟩ => run_13_1 b h
  | ⟨2, _⟩ => run_13_2 b h
  | ⟨3, _⟩ => run_13_3 b h
  | ⟨4, _⟩ => run_13_4 b h
  | ⟨5, _⟩ => run_13_5 b h
  | ⟨6, _⟩ => run_13_6 b h
  | ⟨7, _⟩ => run_13_7 b h
  | ⟨8, _⟩ => run_13_8 b h
  | ⟨9, _⟩ => run_13_9 b h
  | ⟨10, _⟩ => run_13_10 b h
  | ⟨11, _⟩ => run_13_11 b h
  | ⟨12, _⟩ => run_13_12 b h
  | ⟨13, _⟩ => run_13_13 b h
  | ⟨14, _⟩ => run_13_14 b h
  | ⟨15, _⟩ => run_13_15 b h
  | ⟨k + 16, h⟩ => absurd h (by omega)
theorem row_14 (b : Nat) (h : Nat → Option Obj) : ∀ k : Fin 16, run 14 (k.val : Int) [] b h = true
  | ⟨0, _⟩ => run_14_0 b h
  | ⟨1, _⟩ => run_14_1 b h
  | ⟨2, _⟩ => run_14_2 b h
  | ⟨3, _⟩ => run_14_3 b h
  | ⟨4, _⟩ => run_14_4 b h
  | ⟨5, _⟩ => run_14_5 b h
  | ⟨6, _⟩ => run_14_6 b h
  | ⟨7, _⟩ => run_14_7 b h
  | ⟨8, _⟩ => run_14_8 b h
  | ⟨9, _⟩ => run_14_9 b h
  | ⟨10, _⟩ => run_14_10 b h
  | ⟨11, _⟩ => run_14_11 b h
  | ⟨12, _⟩ => run_14_12 b h
  | ⟨13, _⟩ => run_14_13 b h
  | ⟨14, _⟩ => run_14_14 b h
  | ⟨15, _⟩ => run_14_15 b h
  | ⟨k + 16, h⟩ => absurd h (by omega)
theorem row_15 (b : Nat) (h : Nat → Option Obj) : ∀ k : Fin 16, run 15 (k.val : Int) [] b h = true
  | ⟨0, _⟩ => run_15_0 b h
  | ⟨1, _⟩ => run_15_1 b h
  | ⟨2, _⟩ => run_15_2 b h
  | ⟨3, _⟩ => run_15_3 b h
  | ⟨4, _⟩ => run_15_4 b h
  | ⟨5, _⟩ => run_15_5 b h
  | ⟨6, _⟩ => run_15_6 b h
  | ⟨7, _⟩ => run_15_7 b h
  | ⟨8, _⟩ => run_15_8 b h
  | ⟨9, _⟩ => run_15_9 b h
  | ⟨10, _⟩ => run_15_10 b h
  | ⟨11, _⟩ => run_15_11 b h
  | ⟨12, _⟩ => run_15_12 b h
  | ⟨13, _⟩ => run_15_13 b h
  | ⟨14, _⟩ => run_15_14 b h
  | ⟨15, _⟩ => run_15_15 b h
  | ⟨k + 16, h⟩ => absurd h (by omega)
theorem walk (a0 a1 : Int) (w0 : (Lit.int .i64 a0).wf = true) (w1 : (Lit.int .i64 a1).wf = true) (W : World) (hL : laidMetH Tryd.prog Rows.treeBindsRow.laid W) :
    Calls Tryd.prog 3 #[.int .i64 a0, .int .i64 a1] W fun e W' => e = .returned (.bool true) ∧ Below W.heap.size W W' := by
  have b0 := bnd64 w0
  have b1 := bnd64 w1
  obtain ⟨k0, k1⟩ := pickN_lt a0 (n := 16) (by decide)
  obtain ⟨l0, l1⟩ := pickN_lt a1 (n := 16) (by decide)
  generalize hk : pickN a0 16 = p at k0 k1
  generalize hl : pickN a1 16 = q at l0 l1
  have hrun : run p q [] W.heap.size (fun k => W.heap[k]?) = true := by
    refine row p l0 l1 _ _ ?_
    have hp : p = 0 ∨ p = 1 ∨ p = 2 ∨ p = 3 ∨ p = 4 ∨ p = 5 ∨ p = 6 ∨ p = 7 ∨ p = 8 ∨ p = 9 ∨ p = 10 ∨ p = 11 ∨ p = 12 ∨ p = 13 ∨ p = 14 ∨ p = 15 := by omega
    clear hk hl
    rcases hp with rfl | rfl | rfl | rfl | rfl | rfl | rfl | rfl | rfl | rfl | rfl | rfl | rfl | rfl | rfl | rfl
    · exact row_0 _ _
    · exact row_1 _ _
    · exact row_2 _ _
    · exact row_3 _ _
    · exact row_4 _ _
    · exact row_5 _ _
    · exact row_6 _ _
    · exact row_7 _ _
    · exact row_8 _ _
    · exact row_9 _ _
    · exact row_10 _ _
    · exact row_11 _ _
    · exact row_12 _ _
    · exact row_13 _ _
    · exact row_14 _ _
    · exact row_15 _ _
  exact true_at (cx_ok p q [] hL) 3000 (vs := vsA W.heap.size fun k => W.heap[k]?) (vsA_lt _ _) (Nat.le_refl _) hrun (I := (fun j => match j with | 0 => a0 | _ => a1)) ⟨facts_nil, b0, hk, b1, hl⟩ W rfl (laid_at hL _ _) (Nat.le_refl _) (fun _ _ => rfl)
end Go.Proofs.YtaoejgkanafmoaaDoor.TreeBinds
