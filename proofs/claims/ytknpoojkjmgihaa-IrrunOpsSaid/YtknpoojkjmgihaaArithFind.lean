/- Contracts of package arith: what find, Two, One, Div, Rem, Less, Sign and Level return, for any numbers; they write nothing that was there. -/
import Derived.Test.YtknpoojkjmgihaaProg
import Derived.WalkKit
import Derived.Laws.EntriesVeiled
import Derived.KernelRfl
import Derived.Lib.Hide
import Derived.Test.YtknpoojkjmgihaaNum
namespace Go.Proofs.Ytknpoojkjmgihaa
open Go.RowKit

@[go_sem] theorem eqlFuncNil (f : Fn) (a b : Array Value) (w : World) : (Go.binOp BinOp.eql 51 (Value.func f a b) Value.nilFunc).run Try.prog w = Result.ok (.bool false) w := by kernel_rfl
@[go_sem] theorem eqlNilNil (w : World) : (Go.binOp BinOp.eql 51 Value.nilFunc Value.nilFunc).run Try.prog w = Result.ok (.bool true) w := by kernel_rfl
@[go_sem] theorem eqlFuncNil1 (f : Fn) (a b : Array Value) (w : World) : (Go.binOp BinOp.eql 73 (Value.func f a b) Value.nilFunc).run Try.prog w = Result.ok (.bool false) w := by kernel_rfl
@[go_sem] theorem eqlNilNil1 (w : World) : (Go.binOp BinOp.eql 73 Value.nilFunc Value.nilFunc).run Try.prog w = Result.ok (.bool true) w := by kernel_rfl
@[go_sem] theorem fieldRow0 (a b c d : Value) (w : World) : (Instr.field 75 (.agg #[a, b, c, d]) 0).run Try.prog w = Result.ok a w := by kernel_rfl
@[go_sem] theorem fieldRow1 (a b c d : Value) (w : World) : (Instr.field 75 (.agg #[a, b, c, d]) 1).run Try.prog w = Result.ok b w := by kernel_rfl

set_option maxHeartbeats 800000 in
theorem find_1 (w : World) :
    Calls Try.prog 24 #[.int .i64 1] w fun e w' => e = .returned (.agg #[.string ⟨#[43]⟩, .int .i64 7, .func (.func 34) #[] #[], .nilFunc]) ∧ Below w.heap.size w w' := by
  go_enter Try.func24, Try.ntmps24
  go_wp2
  exact bodyPost_ret (v := .agg #[.string ⟨#[43]⟩, .int .i64 7, .func (.func 34) #[] #[], .nilFunc]) (by simp [results, Try.results24, go_sem]) rfl ⟨rfl, ((Below.refl _ _).alloc (Nat.le_refl _) _)⟩
set_option maxHeartbeats 800000 in
theorem find_2 (w : World) :
    Calls Try.prog 24 #[.int .i64 2] w fun e w' => e = .returned (.agg #[.string ⟨#[45]⟩, .int .i64 7, .func (.func 35) #[] #[], .nilFunc]) ∧ Below w.heap.size w w' := by
  go_enter Try.func24, Try.ntmps24
  go_wp2
  exact bodyPost_ret (v := .agg #[.string ⟨#[45]⟩, .int .i64 7, .func (.func 35) #[] #[], .nilFunc]) (by simp [results, Try.results24, go_sem]) rfl ⟨rfl, ((Below.refl _ _).alloc (Nat.le_refl _) _)⟩
set_option maxHeartbeats 800000 in
theorem find_3 (w : World) :
    Calls Try.prog 24 #[.int .i64 3] w fun e w' => e = .returned (.agg #[.string ⟨#[42]⟩, .int .i64 8, .func (.func 36) #[] #[], .nilFunc]) ∧ Below w.heap.size w w' := by
  go_enter Try.func24, Try.ntmps24
  go_wp2
  exact bodyPost_ret (v := .agg #[.string ⟨#[42]⟩, .int .i64 8, .func (.func 36) #[] #[], .nilFunc]) (by simp [results, Try.results24, go_sem]) rfl ⟨rfl, ((Below.refl _ _).alloc (Nat.le_refl _) _)⟩
set_option maxHeartbeats 800000 in
theorem find_4 (w : World) :
    Calls Try.prog 24 #[.int .i64 4] w fun e w' => e = .returned (.agg #[.string ⟨#[47]⟩, .int .i64 8, .func (.func 37) #[] #[], .nilFunc]) ∧ Below w.heap.size w w' := by
  go_enter Try.func24, Try.ntmps24
  go_wp2
  exact bodyPost_ret (v := .agg #[.string ⟨#[47]⟩, .int .i64 8, .func (.func 37) #[] #[], .nilFunc]) (by simp [results, Try.results24, go_sem]) rfl ⟨rfl, ((Below.refl _ _).alloc (Nat.le_refl _) _)⟩
set_option maxHeartbeats 800000 in
theorem find_5 (w : World) :
    Calls Try.prog 24 #[.int .i64 5] w fun e w' => e = .returned (.agg #[.string ⟨#[37]⟩, .int .i64 8, .func (.func 38) #[] #[], .nilFunc]) ∧ Below w.heap.size w w' := by
  go_enter Try.func24, Try.ntmps24
  go_wp2
  exact bodyPost_ret (v := .agg #[.string ⟨#[37]⟩, .int .i64 8, .func (.func 38) #[] #[], .nilFunc]) (by simp [results, Try.results24, go_sem]) rfl ⟨rfl, ((Below.refl _ _).alloc (Nat.le_refl _) _)⟩
set_option maxHeartbeats 800000 in
theorem find_6 (w : World) :
    Calls Try.prog 24 #[.int .i64 6] w fun e w' => e = .returned (.agg #[.string ⟨#[38]⟩, .int .i64 3, .func (.func 39) #[] #[], .nilFunc]) ∧ Below w.heap.size w w' := by
  go_enter Try.func24, Try.ntmps24
  go_wp2
  exact bodyPost_ret (v := .agg #[.string ⟨#[38]⟩, .int .i64 3, .func (.func 39) #[] #[], .nilFunc]) (by simp [results, Try.results24, go_sem]) rfl ⟨rfl, ((Below.refl _ _).alloc (Nat.le_refl _) _)⟩
set_option maxHeartbeats 800000 in
theorem find_7 (w : World) :
    Calls Try.prog 24 #[.int .i64 7] w fun e w' => e = .returned (.agg #[.string ⟨#[124]⟩, .int .i64 1, .func (.func 40) #[] #[], .nilFunc]) ∧ Below w.heap.size w w' := by
  go_enter Try.func24, Try.ntmps24
  go_wp2
  exact bodyPost_ret (v := .agg #[.string ⟨#[124]⟩, .int .i64 1, .func (.func 40) #[] #[], .nilFunc]) (by simp [results, Try.results24, go_sem]) rfl ⟨rfl, ((Below.refl _ _).alloc (Nat.le_refl _) _)⟩
set_option maxHeartbeats 800000 in
theorem find_8 (w : World) :
    Calls Try.prog 24 #[.int .i64 8] w fun e w' => e = .returned (.agg #[.string ⟨#[94]⟩, .int .i64 2, .func (.func 41) #[] #[], .nilFunc]) ∧ Below w.heap.size w w' := by
  go_enter Try.func24, Try.ntmps24
  go_wp2
  exact bodyPost_ret (v := .agg #[.string ⟨#[94]⟩, .int .i64 2, .func (.func 41) #[] #[], .nilFunc]) (by simp [results, Try.results24, go_sem]) rfl ⟨rfl, ((Below.refl _ _).alloc (Nat.le_refl _) _)⟩
set_option maxHeartbeats 800000 in
theorem find_9 (w : World) :
    Calls Try.prog 24 #[.int .i64 9] w fun e w' => e = .returned (.agg #[.string ⟨#[60, 60]⟩, .int .i64 6, .func (.func 42) #[] #[], .nilFunc]) ∧ Below w.heap.size w w' := by
  go_enter Try.func24, Try.ntmps24
  go_wp2
  exact bodyPost_ret (v := .agg #[.string ⟨#[60, 60]⟩, .int .i64 6, .func (.func 42) #[] #[], .nilFunc]) (by simp [results, Try.results24, go_sem]) rfl ⟨rfl, ((Below.refl _ _).alloc (Nat.le_refl _) _)⟩
set_option maxHeartbeats 800000 in
theorem find_10 (w : World) :
    Calls Try.prog 24 #[.int .i64 10] w fun e w' => e = .returned (.agg #[.string ⟨#[62, 62]⟩, .int .i64 6, .func (.func 43) #[] #[], .nilFunc]) ∧ Below w.heap.size w w' := by
  go_enter Try.func24, Try.ntmps24
  go_wp2
  exact bodyPost_ret (v := .agg #[.string ⟨#[62, 62]⟩, .int .i64 6, .func (.func 43) #[] #[], .nilFunc]) (by simp [results, Try.results24, go_sem]) rfl ⟨rfl, ((Below.refl _ _).alloc (Nat.le_refl _) _)⟩
set_option maxHeartbeats 800000 in
theorem find_11 (w : World) :
    Calls Try.prog 24 #[.int .i64 11] w fun e w' => e = .returned (.agg #[.string ⟨#[60]⟩, .int .i64 5, .func (.func 51) #[] #[], .nilFunc]) ∧ Below w.heap.size w w' := by
  go_enter Try.func24, Try.ntmps24
  go_wp2
  refine bodyPost_ret (v := .agg #[.string ⟨#[60]⟩, .int .i64 5, .func (.func 51) #[] #[], .nilFunc]) (by simp [results, Try.results44, go_sem]) rfl ?_
  go_wp2
  refine bodyPost_ret (v := .agg #[.string ⟨#[60]⟩, .int .i64 5, .func (.func 51) #[] #[], .nilFunc]) (by simp [results, Try.results24, go_sem]) rfl ⟨rfl, ?_⟩
  exact ((Below.refl _ _).alloc (Nat.le_refl _) _).alloc (by simp) _
set_option maxHeartbeats 800000 in
theorem find_12 (w : World) :
    Calls Try.prog 24 #[.int .i64 12] w fun e w' => e = .returned (.agg #[.string ⟨#[60, 61]⟩, .int .i64 5, .func (.func 53) #[] #[], .nilFunc]) ∧ Below w.heap.size w w' := by
  go_enter Try.func24, Try.ntmps24
  go_wp2
  refine bodyPost_ret (v := .agg #[.string ⟨#[60, 61]⟩, .int .i64 5, .func (.func 53) #[] #[], .nilFunc]) (by simp [results, Try.results44, go_sem]) rfl ?_
  go_wp2
  refine bodyPost_ret (v := .agg #[.string ⟨#[60, 61]⟩, .int .i64 5, .func (.func 53) #[] #[], .nilFunc]) (by simp [results, Try.results24, go_sem]) rfl ⟨rfl, ?_⟩
  exact ((Below.refl _ _).alloc (Nat.le_refl _) _).alloc (by simp) _
set_option maxHeartbeats 800000 in
theorem find_13 (w : World) :
    Calls Try.prog 24 #[.int .i64 13] w fun e w' => e = .returned (.agg #[.string ⟨#[62]⟩, .int .i64 5, .func (.func 54) #[] #[], .nilFunc]) ∧ Below w.heap.size w w' := by
  go_enter Try.func24, Try.ntmps24
  go_wp2
  refine bodyPost_ret (v := .agg #[.string ⟨#[62]⟩, .int .i64 5, .func (.func 54) #[] #[], .nilFunc]) (by simp [results, Try.results44, go_sem]) rfl ?_
  go_wp2
  refine bodyPost_ret (v := .agg #[.string ⟨#[62]⟩, .int .i64 5, .func (.func 54) #[] #[], .nilFunc]) (by simp [results, Try.results24, go_sem]) rfl ⟨rfl, ?_⟩
  exact ((Below.refl _ _).alloc (Nat.le_refl _) _).alloc (by simp) _
set_option maxHeartbeats 800000 in
theorem find_14 (w : World) :
    Calls Try.prog 24 #[.int .i64 14] w fun e w' => e = .returned (.agg #[.string ⟨#[62, 61]⟩, .int .i64 5, .func (.func 55) #[] #[], .nilFunc]) ∧ Below w.heap.size w w' := by
  go_enter Try.func24, Try.ntmps24
  go_wp2
  refine bodyPost_ret (v := .agg #[.string ⟨#[62, 61]⟩, .int .i64 5, .func (.func 55) #[] #[], .nilFunc]) (by simp [results, Try.results44, go_sem]) rfl ?_
  go_wp2
  refine bodyPost_ret (v := .agg #[.string ⟨#[62, 61]⟩, .int .i64 5, .func (.func 55) #[] #[], .nilFunc]) (by simp [results, Try.results24, go_sem]) rfl ⟨rfl, ?_⟩
  exact ((Below.refl _ _).alloc (Nat.le_refl _) _).alloc (by simp) _
set_option maxHeartbeats 800000 in
theorem find_15 (w : World) :
    Calls Try.prog 24 #[.int .i64 15] w fun e w' => e = .returned (.agg #[.string ⟨#[61, 61]⟩, .int .i64 4, .func (.func 56) #[] #[], .nilFunc]) ∧ Below w.heap.size w w' := by
  go_enter Try.func24, Try.ntmps24
  go_wp2
  refine bodyPost_ret (v := .agg #[.string ⟨#[61, 61]⟩, .int .i64 4, .func (.func 56) #[] #[], .nilFunc]) (by simp [results, Try.results44, go_sem]) rfl ?_
  go_wp2
  refine bodyPost_ret (v := .agg #[.string ⟨#[61, 61]⟩, .int .i64 4, .func (.func 56) #[] #[], .nilFunc]) (by simp [results, Try.results24, go_sem]) rfl ⟨rfl, ?_⟩
  exact ((Below.refl _ _).alloc (Nat.le_refl _) _).alloc (by simp) _
set_option maxHeartbeats 800000 in
theorem find_16 (w : World) :
    Calls Try.prog 24 #[.int .i64 16] w fun e w' => e = .returned (.agg #[.string ⟨#[33, 61]⟩, .int .i64 4, .func (.func 57) #[] #[], .nilFunc]) ∧ Below w.heap.size w w' := by
  go_enter Try.func24, Try.ntmps24
  go_wp2
  refine bodyPost_ret (v := .agg #[.string ⟨#[33, 61]⟩, .int .i64 4, .func (.func 57) #[] #[], .nilFunc]) (by simp [results, Try.results44, go_sem]) rfl ?_
  go_wp2
  refine bodyPost_ret (v := .agg #[.string ⟨#[33, 61]⟩, .int .i64 4, .func (.func 57) #[] #[], .nilFunc]) (by simp [results, Try.results24, go_sem]) rfl ⟨rfl, ?_⟩
  exact ((Below.refl _ _).alloc (Nat.le_refl _) _).alloc (by simp) _
set_option maxHeartbeats 800000 in
theorem find_17 (w : World) :
    Calls Try.prog 24 #[.int .i64 17] w fun e w' => e = .returned (.agg #[.string ⟨#[45]⟩, .int .i64 0, .nilFunc, .func (.func 58) #[] #[]]) ∧ Below w.heap.size w w' := by
  go_enter Try.func24, Try.ntmps24
  go_wp2
  refine bodyPost_ret (v := .agg #[.string ⟨#[45]⟩, .int .i64 0, .nilFunc, .func (.func 58) #[] #[]]) (by simp [results, Try.results44, go_sem]) rfl ?_
  go_wp2
  refine bodyPost_ret (v := .agg #[.string ⟨#[45]⟩, .int .i64 0, .nilFunc, .func (.func 58) #[] #[]]) (by simp [results, Try.results24, go_sem]) rfl ⟨rfl, ?_⟩
  exact ((Below.refl _ _).alloc (Nat.le_refl _) _).alloc (by simp) _
set_option maxHeartbeats 800000 in
theorem find_18 (w : World) :
    Calls Try.prog 24 #[.int .i64 18] w fun e w' => e = .returned (.agg #[.string ⟨#[33]⟩, .int .i64 0, .nilFunc, .func (.func 59) #[] #[]]) ∧ Below w.heap.size w w' := by
  go_enter Try.func24, Try.ntmps24
  go_wp2
  refine bodyPost_ret (v := .agg #[.string ⟨#[33]⟩, .int .i64 0, .nilFunc, .func (.func 59) #[] #[]]) (by simp [results, Try.results44, go_sem]) rfl ?_
  go_wp2
  refine bodyPost_ret (v := .agg #[.string ⟨#[33]⟩, .int .i64 0, .nilFunc, .func (.func 59) #[] #[]]) (by simp [results, Try.results24, go_sem]) rfl ⟨rfl, ?_⟩
  exact ((Below.refl _ _).alloc (Nat.le_refl _) _).alloc (by simp) _
set_option maxHeartbeats 800000 in
theorem find_19 (w : World) :
    Calls Try.prog 24 #[.int .i64 19] w fun e w' => e = .returned (.agg #[.string ⟨#[126]⟩, .int .i64 0, .nilFunc, .func (.func 60) #[] #[]]) ∧ Below w.heap.size w w' := by
  go_enter Try.func24, Try.ntmps24
  go_wp2
  refine bodyPost_ret (v := .agg #[.string ⟨#[126]⟩, .int .i64 0, .nilFunc, .func (.func 60) #[] #[]]) (by simp [results, Try.results44, go_sem]) rfl ?_
  go_wp2
  refine bodyPost_ret (v := .agg #[.string ⟨#[126]⟩, .int .i64 0, .nilFunc, .func (.func 60) #[] #[]]) (by simp [results, Try.results24, go_sem]) rfl ⟨rfl, ?_⟩
  exact ((Below.refl _ _).alloc (Nat.le_refl _) _).alloc (by simp) _
set_option maxHeartbeats 800000 in
theorem find_none (op : Int) (h : op < 1 ∨ 19 < op) (w : World) :
    Calls Try.prog 24 #[.int .i64 op] w fun e w' => e = .returned (.agg #[.string ⟨#[]⟩, .int .i64 0, .nilFunc, .nilFunc]) ∧ Below w.heap.size w w' := by
  have n1 : (op == 1) = false := by simp; omega
  have n2 : (op == 2) = false := by simp; omega
  have n3 : (op == 3) = false := by simp; omega
  have n4 : (op == 4) = false := by simp; omega
  have n5 : (op == 5) = false := by simp; omega
  have n6 : (op == 6) = false := by simp; omega
  have n7 : (op == 7) = false := by simp; omega
  have n8 : (op == 8) = false := by simp; omega
  have n9 : (op == 9) = false := by simp; omega
  have n10 : (op == 10) = false := by simp; omega
  have n11 : (op == 11) = false := by simp; omega
  have n12 : (op == 12) = false := by simp; omega
  have n13 : (op == 13) = false := by simp; omega
  have n14 : (op == 14) = false := by simp; omega
  have n15 : (op == 15) = false := by simp; omega
  have n16 : (op == 16) = false := by simp; omega
  have n17 : (op == 17) = false := by simp; omega
  have n18 : (op == 18) = false := by simp; omega
  have n19 : (op == 19) = false := by simp; omega
  clear h
  go_enter Try.func24, Try.ntmps24
  go_wp2
  refine bodyPost_ret (v := .agg #[.string ⟨#[]⟩, .int .i64 0, .nilFunc, .nilFunc]) (by simp [results, Try.results44, go_sem]) rfl ?_
  go_wp2
  refine bodyPost_ret (v := .agg #[.string ⟨#[]⟩, .int .i64 0, .nilFunc, .nilFunc]) (by simp [results, Try.results24, go_sem]) rfl ⟨rfl, ?_⟩
  exact ((Below.refl _ _).alloc (Nat.le_refl _) _).alloc (by simp) _
end Go.Proofs.Ytknpoojkjmgihaa
