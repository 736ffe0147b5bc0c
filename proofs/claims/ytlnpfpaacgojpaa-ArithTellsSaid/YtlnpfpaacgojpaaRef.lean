import Derived.Test.YtlnpfpaacgojpaaArithAll
import Derived.Test.YtlnpfpaacgojpaaBase
namespace Go.Proofs.Ytlnpfpaacgojpaa
open Go.RowKit
def divN (a b : Int) : Int := if b = 0 then -1 else wrap64 (a.tdiv b)
def remN (a b : Int) : Int := if b = 0 then a else a.tmod b
theorem div_all (a b : Int) (w : World) : Calls Try.prog 17 #[.int .i64 a, .int .i64 b] w fun e w' => e = .returned (.int .i64 (divN a b)) ∧ w = w' := by
  by_cases h : b = 0
  · subst h; exact (div_0 a w).mono fun e w' h => ⟨by rw [h.1]; simp [divN], h.2⟩
  · exact (div_any a b w h).mono fun e w' k => ⟨by rw [k.1]; simp [divN, h], k.2⟩
theorem rem_all (a b : Int) (w : World) : Calls Try.prog 19 #[.int .i64 a, .int .i64 b] w fun e w' => e = .returned (.int .i64 (remN a b)) ∧ w = w' := by
  by_cases h : b = 0
  · subst h; exact (rem_0 a w).mono fun e w' h => ⟨by rw [h.1]; simp [remN], h.2⟩
  · exact (rem_any a b w h).mono fun e w' k => ⟨by rw [k.1]; simp [remN, h], k.2⟩
theorem tdiv_m1 (a : Int) : a.tdiv (-1) = -a := by rw [Int.tdiv_neg, Int.tdiv_one]
theorem tmod_m1 (a : Int) : a.tmod (-1) = 0 := by simp
set_option maxHeartbeats 800000 in
theorem rdiv_all (a b : Int) (w : World) : Calls Try.prog 18 #[.int .i64 a, .int .i64 b] w fun e w' => e = .returned (.int .i64 (divN a b)) ∧ w = w' := by
  by_cases h : b = 0
  · subst h
    go_enter Try.func18, Try.ntmps18
    go_wp2
    go_ret
    exact ⟨rfl, rfl⟩
  · by_cases h1 : b = -1
    · subst h1
      have k : divN a (-1) = wrap64 (-a) := by simp [divN, tdiv_m1]
      rw [k]; clear k
      go_enter Try.func18, Try.ntmps18
      go_wp2
      go_ret
      exact ⟨rfl, rfl⟩
    · have k : divN a b = wrap64 (a.tdiv b) := by simp [divN, h]
      rw [k]; clear k
      have h' : (b == 0) = false := by simpa using h
      have h1' : (b == -1) = false := by simpa using h1
      go_enter Try.func18, Try.ntmps18
      go_wp2
      go_ret
      exact ⟨rfl, rfl⟩
set_option maxHeartbeats 800000 in
theorem rrem_all (a b : Int) (w : World) : Calls Try.prog 20 #[.int .i64 a, .int .i64 b] w fun e w' => e = .returned (.int .i64 (remN a b)) ∧ w = w' := by
  by_cases h : b = 0
  · subst h
    go_enter Try.func20, Try.ntmps20
    go_wp2
    go_ret
    exact ⟨rfl, rfl⟩
  · by_cases h1 : b = -1
    · subst h1
      have k : remN a (-1) = 0 := by simp [remN]
      rw [k]; clear k
      go_enter Try.func20, Try.ntmps20
      go_wp2
      go_ret
      exact ⟨rfl, rfl⟩
    · have k : remN a b = a.tmod b := by simp [remN, h]
      rw [k]; clear k
      have h' : (b == 0) = false := by simpa using h
      have h1' : (b == -1) = false := by simpa using h1
      go_enter Try.func20, Try.ntmps20
      go_wp2
      go_ret
      exact ⟨rfl, rfl⟩
set_option maxHeartbeats 400000 in
theorem rless_any (a b : Int) (w : World) :
    Calls Try.prog 22 #[.int .i64 a, .int .i64 b] w fun e w' => e = .returned (.bool (lessN a b)) ∧ w = w' := by
  go_enter Try.func22, Try.ntmps22
  go_wp2
  go_ret
  exact ⟨rfl, rfl⟩
theorem shift_min2 (b : Int) : (bits .and .i64 b 63).toNat = shiftOf b := by
  rw [and63]; rfl
set_option maxHeartbeats 1600000 in
theorem rtwo_1 (a b : Int) (w : World) :
    Calls Try.prog 16 #[.int .i64 1, .int .i64 a, .int .i64 b] w fun e w' => e = .returned (.tuple #[.int .i64 (twoN 1 a b), .bool (twoB 1 b)]) ∧ w = w' := by
  go_enter Try.func16, Try.ntmps16
  go_wp2
  go_ret2
  exact ⟨by simp [twoN, twoB], rfl⟩
set_option maxHeartbeats 1600000 in
theorem rtwo_2 (a b : Int) (w : World) :
    Calls Try.prog 16 #[.int .i64 2, .int .i64 a, .int .i64 b] w fun e w' => e = .returned (.tuple #[.int .i64 (twoN 2 a b), .bool (twoB 2 b)]) ∧ w = w' := by
  go_enter Try.func16, Try.ntmps16
  go_wp2
  go_ret2
  exact ⟨by simp [twoN, twoB], rfl⟩
set_option maxHeartbeats 1600000 in
theorem rtwo_3 (a b : Int) (w : World) :
    Calls Try.prog 16 #[.int .i64 3, .int .i64 a, .int .i64 b] w fun e w' => e = .returned (.tuple #[.int .i64 (twoN 3 a b), .bool (twoB 3 b)]) ∧ w = w' := by
  go_enter Try.func16, Try.ntmps16
  go_wp2
  go_ret2
  exact ⟨by simp [twoN, twoB], rfl⟩
set_option maxHeartbeats 1600000 in
theorem rtwo_4 (a b : Int) (w : World) :
    Calls Try.prog 16 #[.int .i64 4, .int .i64 a, .int .i64 b] w fun e w' => e = .returned (.tuple #[.int .i64 (twoN 4 a b), .bool (twoB 4 b)]) ∧ w = w' := by
  by_cases hb : b = 0
  · subst hb
    go_enter Try.func16, Try.ntmps16
    go_wp2
    go_ret2
    exact ⟨by simp [twoN, twoB], rfl⟩
  · have hb' : (b == 0) = false := by simpa using hb
    have q : divN a b = twoN 4 a b := by simp [divN, twoN, hb]
    have q2 : twoB 4 b = true := by simp [twoB, hb]
    rw [← q, q2]
    clear q q2
    go_enter Try.func16, Try.ntmps16
    go_wp2_with (go_at_call 18; (with_reducible refine (rdiv_all _ _ _).mono ?_); rintro e w2 ⟨rfl, rfl⟩)
    go_ret2
    exact ⟨rfl, rfl⟩
set_option maxHeartbeats 1600000 in
theorem rtwo_5 (a b : Int) (w : World) :
    Calls Try.prog 16 #[.int .i64 5, .int .i64 a, .int .i64 b] w fun e w' => e = .returned (.tuple #[.int .i64 (twoN 5 a b), .bool (twoB 5 b)]) ∧ w = w' := by
  by_cases hb : b = 0
  · subst hb
    go_enter Try.func16, Try.ntmps16
    go_wp2
    go_ret2
    exact ⟨by simp [twoN, twoB], rfl⟩
  · have hb' : (b == 0) = false := by simpa using hb
    have q : remN a b = twoN 5 a b := by simp [remN, twoN, hb]
    have q2 : twoB 5 b = true := by simp [twoB, hb]
    rw [← q, q2]
    clear q q2
    go_enter Try.func16, Try.ntmps16
    go_wp2_with (go_at_call 20; (with_reducible refine (rrem_all _ _ _).mono ?_); rintro e w2 ⟨rfl, rfl⟩)
    go_ret2
    exact ⟨rfl, rfl⟩
set_option maxHeartbeats 1600000 in
theorem rtwo_6 (a b : Int) (w : World) :
    Calls Try.prog 16 #[.int .i64 6, .int .i64 a, .int .i64 b] w fun e w' => e = .returned (.tuple #[.int .i64 (twoN 6 a b), .bool (twoB 6 b)]) ∧ w = w' := by
  go_enter Try.func16, Try.ntmps16
  go_wp2
  go_ret2
  exact ⟨by simp [twoN, twoB], rfl⟩
set_option maxHeartbeats 1600000 in
theorem rtwo_7 (a b : Int) (w : World) :
    Calls Try.prog 16 #[.int .i64 7, .int .i64 a, .int .i64 b] w fun e w' => e = .returned (.tuple #[.int .i64 (twoN 7 a b), .bool (twoB 7 b)]) ∧ w = w' := by
  go_enter Try.func16, Try.ntmps16
  go_wp2
  go_ret2
  exact ⟨by simp [twoN, twoB], rfl⟩
set_option maxHeartbeats 1600000 in
theorem rtwo_8 (a b : Int) (w : World) :
    Calls Try.prog 16 #[.int .i64 8, .int .i64 a, .int .i64 b] w fun e w' => e = .returned (.tuple #[.int .i64 (twoN 8 a b), .bool (twoB 8 b)]) ∧ w = w' := by
  go_enter Try.func16, Try.ntmps16
  go_wp2
  go_ret2
  exact ⟨by simp [twoN, twoB], rfl⟩
set_option maxHeartbeats 1600000 in
theorem rtwo_9 (a b : Int) (w : World) :
    Calls Try.prog 16 #[.int .i64 9, .int .i64 a, .int .i64 b] w fun e w' => e = .returned (.tuple #[.int .i64 (twoN 9 a b), .bool (twoB 9 b)]) ∧ w = w' := by
  have s0 : 0 ≤ bits .and .i64 b 63 := by rw [and63]; omega
  have s1 : bits .and .i64 b 63 ≤ 63 := by rw [and63]; omega
  go_enter Try.func16, Try.ntmps16
  go_wp2
  go_ret2
  exact ⟨by have q := shift_min2 b; simp [twoN, twoB, q], rfl⟩
set_option maxHeartbeats 1600000 in
theorem rtwo_10 (a b : Int) (w : World) :
    Calls Try.prog 16 #[.int .i64 10, .int .i64 a, .int .i64 b] w fun e w' => e = .returned (.tuple #[.int .i64 (twoN 10 a b), .bool (twoB 10 b)]) ∧ w = w' := by
  have s0 : 0 ≤ bits .and .i64 b 63 := by rw [and63]; omega
  have s1 : bits .and .i64 b 63 ≤ 63 := by rw [and63]; omega
  go_enter Try.func16, Try.ntmps16
  go_wp2
  go_ret2
  exact ⟨by have q := shift_min2 b; simp [twoN, twoB, q], rfl⟩
set_option maxHeartbeats 1600000 in
theorem rtwo_11 (a b : Int) (w : World) :
    Calls Try.prog 16 #[.int .i64 11, .int .i64 a, .int .i64 b] w fun e w' => e = .returned (.tuple #[.int .i64 (twoN 11 a b), .bool (twoB 11 b)]) ∧ w = w' := by
  go_enter Try.func16, Try.ntmps16
  go_wp2
  all_goals
    go_ret2
    exact ⟨by simp_all [twoN, twoB, truthN], rfl⟩
set_option maxHeartbeats 1600000 in
theorem rtwo_12 (a b : Int) (w : World) :
    Calls Try.prog 16 #[.int .i64 12, .int .i64 a, .int .i64 b] w fun e w' => e = .returned (.tuple #[.int .i64 (twoN 12 a b), .bool (twoB 12 b)]) ∧ w = w' := by
  go_enter Try.func16, Try.ntmps16
  go_wp2
  all_goals
    go_ret2
    exact ⟨by simp_all [twoN, twoB, truthN], rfl⟩
set_option maxHeartbeats 1600000 in
theorem rtwo_13 (a b : Int) (w : World) :
    Calls Try.prog 16 #[.int .i64 13, .int .i64 a, .int .i64 b] w fun e w' => e = .returned (.tuple #[.int .i64 (twoN 13 a b), .bool (twoB 13 b)]) ∧ w = w' := by
  go_enter Try.func16, Try.ntmps16
  go_wp2
  all_goals
    go_ret2
    exact ⟨by simp_all [twoN, twoB, truthN], rfl⟩
set_option maxHeartbeats 1600000 in
theorem rtwo_14 (a b : Int) (w : World) :
    Calls Try.prog 16 #[.int .i64 14, .int .i64 a, .int .i64 b] w fun e w' => e = .returned (.tuple #[.int .i64 (twoN 14 a b), .bool (twoB 14 b)]) ∧ w = w' := by
  go_enter Try.func16, Try.ntmps16
  go_wp2
  all_goals
    go_ret2
    exact ⟨by simp_all [twoN, twoB, truthN], rfl⟩
set_option maxHeartbeats 1600000 in
theorem rtwo_15 (a b : Int) (w : World) :
    Calls Try.prog 16 #[.int .i64 15, .int .i64 a, .int .i64 b] w fun e w' => e = .returned (.tuple #[.int .i64 (twoN 15 a b), .bool (twoB 15 b)]) ∧ w = w' := by
  go_enter Try.func16, Try.ntmps16
  go_wp2
  all_goals
    go_ret2
    exact ⟨by simp_all [twoN, twoB, truthN], rfl⟩
set_option maxHeartbeats 1600000 in
theorem rtwo_16 (a b : Int) (w : World) :
    Calls Try.prog 16 #[.int .i64 16, .int .i64 a, .int .i64 b] w fun e w' => e = .returned (.tuple #[.int .i64 (twoN 16 a b), .bool (twoB 16 b)]) ∧ w = w' := by
  go_enter Try.func16, Try.ntmps16
  go_wp2
  all_goals
    go_ret2
    exact ⟨by simp_all [twoN, twoB, truthN], rfl⟩
set_option maxHeartbeats 1600000 in
theorem rtwo_none (op a b : Int) (h : op < 1 ∨ 16 < op) (w : World) :
    Calls Try.prog 16 #[.int .i64 op, .int .i64 a, .int .i64 b] w fun e w' => e = .returned (.tuple #[.int .i64 (twoN op a b), .bool (twoB op b)]) ∧ w = w' := by
  have k : twoN op a b = 0 ∧ twoB op b = false := by
    have h1 : ¬ op = 1 := by omega
    have h2 : ¬ op = 2 := by omega
    have h3 : ¬ op = 3 := by omega
    have h4 : ¬ op = 4 := by omega
    have h5 : ¬ op = 5 := by omega
    have h6 : ¬ op = 6 := by omega
    have h7 : ¬ op = 7 := by omega
    have h8 : ¬ op = 8 := by omega
    have h9 : ¬ op = 9 := by omega
    have h10 : ¬ op = 10 := by omega
    have h11 : ¬ op = 11 := by omega
    have h12 : ¬ op = 12 := by omega
    have h13 : ¬ op = 13 := by omega
    have h14 : ¬ op = 14 := by omega
    have h15 : ¬ op = 15 := by omega
    have h16 : ¬ op = 16 := by omega
    have hq : ¬ (1 ≤ op ∧ op ≤ 16) := by omega
    simp [twoN, twoB, h1, h2, h3, h4, h5, h6, h7, h8, h9, h10, h11, h12, h13, h14, h15, h16]
    omega
  rw [k.1, k.2]
  clear k
  have n1 : (op == 1) = false := by simp; omega
  have n2 : (op == 2) = false := by simp; omega
  have n3 : (op == 3) = false := by simp; omega
  have n4 : (op == 4) = false := by simp; omega
  have n5 : (op == 5) = false := by simp; omega
  have n6 : (op == 6) = false := by simp; omega
  have n7 : (op == 7) = false := by simp; omega
  have n8 : (op == 8) = false := by simp; omega
  have n9 : (op == 9) = false := by simp; omega
  have n10 : (op == 10) = false := by simp; omega
  have n11 : (op == 11) = false := by simp; omega
  have n12 : (op == 12) = false := by simp; omega
  have n13 : (op == 13) = false := by simp; omega
  have n14 : (op == 14) = false := by simp; omega
  have n15 : (op == 15) = false := by simp; omega
  have n16 : (op == 16) = false := by simp; omega
  clear h
  go_enter Try.func16, Try.ntmps16
  go_wp2
  go_ret2
  exact ⟨rfl, rfl⟩
theorem rtwo_all (op a b : Int) (w : World) :
    Calls Try.prog 16 #[.int .i64 op, .int .i64 a, .int .i64 b] w fun e w' => e = .returned (.tuple #[.int .i64 (twoN op a b), .bool (twoB op b)]) ∧ w = w' := by
  by_cases h1 : op = 1
  · subst h1; exact rtwo_1 a b w
  by_cases h2 : op = 2
  · subst h2; exact rtwo_2 a b w
  by_cases h3 : op = 3
  · subst h3; exact rtwo_3 a b w
  by_cases h4 : op = 4
  · subst h4; exact rtwo_4 a b w
  by_cases h5 : op = 5
  · subst h5; exact rtwo_5 a b w
  by_cases h6 : op = 6
  · subst h6; exact rtwo_6 a b w
  by_cases h7 : op = 7
  · subst h7; exact rtwo_7 a b w
  by_cases h8 : op = 8
  · subst h8; exact rtwo_8 a b w
  by_cases h9 : op = 9
  · subst h9; exact rtwo_9 a b w
  by_cases h10 : op = 10
  · subst h10; exact rtwo_10 a b w
  by_cases h11 : op = 11
  · subst h11; exact rtwo_11 a b w
  by_cases h12 : op = 12
  · subst h12; exact rtwo_12 a b w
  by_cases h13 : op = 13
  · subst h13; exact rtwo_13 a b w
  by_cases h14 : op = 14
  · subst h14; exact rtwo_14 a b w
  by_cases h15 : op = 15
  · subst h15; exact rtwo_15 a b w
  by_cases h16 : op = 16
  · subst h16; exact rtwo_16 a b w
  exact rtwo_none op a b (by omega) w
set_option maxHeartbeats 1600000 in
theorem rone_17 (a : Int) (w : World) :
    Calls Try.prog 24 #[.int .i64 17, .int .i64 a] w fun e w' => e = .returned (.tuple #[.int .i64 (oneN 17 a), .bool (oneB 17)]) ∧ w = w' := by
  go_enter Try.func24, Try.ntmps24
  go_wp2
  all_goals
    go_ret2
    exact ⟨by first | (simp_all [oneN, oneB, truthN, inv64]; done) | (simp [oneN, oneB, truthN, ← inv64]; rfl), rfl⟩
set_option maxHeartbeats 1600000 in
theorem rone_18 (a : Int) (w : World) :
    Calls Try.prog 24 #[.int .i64 18, .int .i64 a] w fun e w' => e = .returned (.tuple #[.int .i64 (oneN 18 a), .bool (oneB 18)]) ∧ w = w' := by
  go_enter Try.func24, Try.ntmps24
  go_wp2
  all_goals
    go_ret2
    exact ⟨by first | (simp_all [oneN, oneB, truthN, inv64]; done) | (simp [oneN, oneB, truthN, ← inv64]; rfl), rfl⟩
set_option maxHeartbeats 1600000 in
theorem rone_19 (a : Int) (w : World) :
    Calls Try.prog 24 #[.int .i64 19, .int .i64 a] w fun e w' => e = .returned (.tuple #[.int .i64 (oneN 19 a), .bool (oneB 19)]) ∧ w = w' := by
  go_enter Try.func24, Try.ntmps24
  go_wp2
  all_goals
    go_ret2
    exact ⟨by first | (simp_all [oneN, oneB, truthN, inv64]; done) | (simp [oneN, oneB, truthN, ← inv64]; rfl), rfl⟩
set_option maxHeartbeats 1600000 in
theorem rone_all (op a : Int) (w : World) :
    Calls Try.prog 24 #[.int .i64 op, .int .i64 a] w fun e w' => e = .returned (.tuple #[.int .i64 (oneN op a), .bool (oneB op)]) ∧ w = w' := by
  by_cases h17 : op = 17
  · subst h17; exact rone_17 a w
  by_cases h18 : op = 18
  · subst h18; exact rone_18 a w
  by_cases h19 : op = 19
  · subst h19; exact rone_19 a w
  have n17 : (op == 17) = false := by simp; omega
  have n18 : (op == 18) = false := by simp; omega
  have n19 : (op == 19) = false := by simp; omega
  have k : oneN op a = 0 ∧ oneB op = false := by
    simp [oneN, oneB, h17, h18, h19]; omega
  rw [k.1, k.2]
  clear k h17 h18 h19
  go_enter Try.func24, Try.ntmps24
  go_wp2
  go_ret2
  exact ⟨rfl, rfl⟩
set_option maxHeartbeats 1600000 in
theorem rsign_1 (w : World) :
    Calls Try.prog 26 #[.int .i64 1] w fun e w' => e = .returned (.tuple #[.string (signS 1), .bool (signB 1)]) ∧ Below w.heap.size w w' := by
  go_enter Try.func26, Try.ntmps26
  go_wp2
  go_ret2
  exact ⟨by simp [signS, signB, levelN], by first | exact Below.refl _ _ | exact (Below.refl _ _).alloc (Nat.le_refl _) _⟩
set_option maxHeartbeats 1600000 in
theorem rsign_2 (w : World) :
    Calls Try.prog 26 #[.int .i64 2] w fun e w' => e = .returned (.tuple #[.string (signS 2), .bool (signB 2)]) ∧ Below w.heap.size w w' := by
  go_enter Try.func26, Try.ntmps26
  go_wp2
  go_ret2
  exact ⟨by simp [signS, signB, levelN], by first | exact Below.refl _ _ | exact (Below.refl _ _).alloc (Nat.le_refl _) _⟩
set_option maxHeartbeats 1600000 in
theorem rsign_3 (w : World) :
    Calls Try.prog 26 #[.int .i64 3] w fun e w' => e = .returned (.tuple #[.string (signS 3), .bool (signB 3)]) ∧ Below w.heap.size w w' := by
  go_enter Try.func26, Try.ntmps26
  go_wp2
  go_ret2
  exact ⟨by simp [signS, signB, levelN], by first | exact Below.refl _ _ | exact (Below.refl _ _).alloc (Nat.le_refl _) _⟩
set_option maxHeartbeats 1600000 in
theorem rsign_4 (w : World) :
    Calls Try.prog 26 #[.int .i64 4] w fun e w' => e = .returned (.tuple #[.string (signS 4), .bool (signB 4)]) ∧ Below w.heap.size w w' := by
  go_enter Try.func26, Try.ntmps26
  go_wp2
  go_ret2
  exact ⟨by simp [signS, signB, levelN], by first | exact Below.refl _ _ | exact (Below.refl _ _).alloc (Nat.le_refl _) _⟩
set_option maxHeartbeats 1600000 in
theorem rsign_5 (w : World) :
    Calls Try.prog 26 #[.int .i64 5] w fun e w' => e = .returned (.tuple #[.string (signS 5), .bool (signB 5)]) ∧ Below w.heap.size w w' := by
  go_enter Try.func26, Try.ntmps26
  go_wp2
  go_ret2
  exact ⟨by simp [signS, signB, levelN], by first | exact Below.refl _ _ | exact (Below.refl _ _).alloc (Nat.le_refl _) _⟩
set_option maxHeartbeats 1600000 in
theorem rsign_6 (w : World) :
    Calls Try.prog 26 #[.int .i64 6] w fun e w' => e = .returned (.tuple #[.string (signS 6), .bool (signB 6)]) ∧ Below w.heap.size w w' := by
  go_enter Try.func26, Try.ntmps26
  go_wp2
  go_ret2
  exact ⟨by simp [signS, signB, levelN], by first | exact Below.refl _ _ | exact (Below.refl _ _).alloc (Nat.le_refl _) _⟩
set_option maxHeartbeats 1600000 in
theorem rsign_7 (w : World) :
    Calls Try.prog 26 #[.int .i64 7] w fun e w' => e = .returned (.tuple #[.string (signS 7), .bool (signB 7)]) ∧ Below w.heap.size w w' := by
  go_enter Try.func26, Try.ntmps26
  go_wp2
  go_ret2
  exact ⟨by simp [signS, signB, levelN], by first | exact Below.refl _ _ | exact (Below.refl _ _).alloc (Nat.le_refl _) _⟩
set_option maxHeartbeats 1600000 in
theorem rsign_8 (w : World) :
    Calls Try.prog 26 #[.int .i64 8] w fun e w' => e = .returned (.tuple #[.string (signS 8), .bool (signB 8)]) ∧ Below w.heap.size w w' := by
  go_enter Try.func26, Try.ntmps26
  go_wp2
  go_ret2
  exact ⟨by simp [signS, signB, levelN], by first | exact Below.refl _ _ | exact (Below.refl _ _).alloc (Nat.le_refl _) _⟩
set_option maxHeartbeats 1600000 in
theorem rsign_9 (w : World) :
    Calls Try.prog 26 #[.int .i64 9] w fun e w' => e = .returned (.tuple #[.string (signS 9), .bool (signB 9)]) ∧ Below w.heap.size w w' := by
  go_enter Try.func26, Try.ntmps26
  go_wp2
  go_ret2
  exact ⟨by simp [signS, signB, levelN], by first | exact Below.refl _ _ | exact (Below.refl _ _).alloc (Nat.le_refl _) _⟩
set_option maxHeartbeats 1600000 in
theorem rsign_10 (w : World) :
    Calls Try.prog 26 #[.int .i64 10] w fun e w' => e = .returned (.tuple #[.string (signS 10), .bool (signB 10)]) ∧ Below w.heap.size w w' := by
  go_enter Try.func26, Try.ntmps26
  go_wp2
  go_ret2
  exact ⟨by simp [signS, signB, levelN], by first | exact Below.refl _ _ | exact (Below.refl _ _).alloc (Nat.le_refl _) _⟩
set_option maxHeartbeats 1600000 in
theorem rsign_11 (w : World) :
    Calls Try.prog 26 #[.int .i64 11] w fun e w' => e = .returned (.tuple #[.string (signS 11), .bool (signB 11)]) ∧ Below w.heap.size w w' := by
  go_enter Try.func26, Try.ntmps26
  go_wp2
  go_ret2
  exact ⟨by simp [signS, signB, levelN], by first | exact Below.refl _ _ | exact (Below.refl _ _).alloc (Nat.le_refl _) _⟩
set_option maxHeartbeats 1600000 in
theorem rsign_12 (w : World) :
    Calls Try.prog 26 #[.int .i64 12] w fun e w' => e = .returned (.tuple #[.string (signS 12), .bool (signB 12)]) ∧ Below w.heap.size w w' := by
  go_enter Try.func26, Try.ntmps26
  go_wp2
  go_ret2
  exact ⟨by simp [signS, signB, levelN], by first | exact Below.refl _ _ | exact (Below.refl _ _).alloc (Nat.le_refl _) _⟩
set_option maxHeartbeats 1600000 in
theorem rsign_13 (w : World) :
    Calls Try.prog 26 #[.int .i64 13] w fun e w' => e = .returned (.tuple #[.string (signS 13), .bool (signB 13)]) ∧ Below w.heap.size w w' := by
  go_enter Try.func26, Try.ntmps26
  go_wp2
  go_ret2
  exact ⟨by simp [signS, signB, levelN], by first | exact Below.refl _ _ | exact (Below.refl _ _).alloc (Nat.le_refl _) _⟩
set_option maxHeartbeats 1600000 in
theorem rsign_14 (w : World) :
    Calls Try.prog 26 #[.int .i64 14] w fun e w' => e = .returned (.tuple #[.string (signS 14), .bool (signB 14)]) ∧ Below w.heap.size w w' := by
  go_enter Try.func26, Try.ntmps26
  go_wp2
  go_ret2
  exact ⟨by simp [signS, signB, levelN], by first | exact Below.refl _ _ | exact (Below.refl _ _).alloc (Nat.le_refl _) _⟩
set_option maxHeartbeats 1600000 in
theorem rsign_15 (w : World) :
    Calls Try.prog 26 #[.int .i64 15] w fun e w' => e = .returned (.tuple #[.string (signS 15), .bool (signB 15)]) ∧ Below w.heap.size w w' := by
  go_enter Try.func26, Try.ntmps26
  go_wp2
  go_ret2
  exact ⟨by simp [signS, signB, levelN], by first | exact Below.refl _ _ | exact (Below.refl _ _).alloc (Nat.le_refl _) _⟩
set_option maxHeartbeats 1600000 in
theorem rsign_16 (w : World) :
    Calls Try.prog 26 #[.int .i64 16] w fun e w' => e = .returned (.tuple #[.string (signS 16), .bool (signB 16)]) ∧ Below w.heap.size w w' := by
  go_enter Try.func26, Try.ntmps26
  go_wp2
  go_ret2
  exact ⟨by simp [signS, signB, levelN], by first | exact Below.refl _ _ | exact (Below.refl _ _).alloc (Nat.le_refl _) _⟩
set_option maxHeartbeats 1600000 in
theorem rsign_17 (w : World) :
    Calls Try.prog 26 #[.int .i64 17] w fun e w' => e = .returned (.tuple #[.string (signS 17), .bool (signB 17)]) ∧ Below w.heap.size w w' := by
  go_enter Try.func26, Try.ntmps26
  go_wp2
  go_ret2
  exact ⟨by simp [signS, signB, levelN], by first | exact Below.refl _ _ | exact (Below.refl _ _).alloc (Nat.le_refl _) _⟩
set_option maxHeartbeats 1600000 in
theorem rsign_18 (w : World) :
    Calls Try.prog 26 #[.int .i64 18] w fun e w' => e = .returned (.tuple #[.string (signS 18), .bool (signB 18)]) ∧ Below w.heap.size w w' := by
  go_enter Try.func26, Try.ntmps26
  go_wp2
  go_ret2
  exact ⟨by simp [signS, signB, levelN], by first | exact Below.refl _ _ | exact (Below.refl _ _).alloc (Nat.le_refl _) _⟩
set_option maxHeartbeats 1600000 in
theorem rsign_19 (w : World) :
    Calls Try.prog 26 #[.int .i64 19] w fun e w' => e = .returned (.tuple #[.string (signS 19), .bool (signB 19)]) ∧ Below w.heap.size w w' := by
  go_enter Try.func26, Try.ntmps26
  go_wp2
  go_ret2
  exact ⟨by simp [signS, signB, levelN], by first | exact Below.refl _ _ | exact (Below.refl _ _).alloc (Nat.le_refl _) _⟩
set_option maxHeartbeats 1600000 in
theorem rsign_all (op : Int) (w : World) :
    Calls Try.prog 26 #[.int .i64 op] w fun e w' => e = .returned (.tuple #[.string (signS op), .bool (signB op)]) ∧ Below w.heap.size w w' := by
  by_cases h1 : op = 1
  · subst h1; exact rsign_1 w
  by_cases h2 : op = 2
  · subst h2; exact rsign_2 w
  by_cases h3 : op = 3
  · subst h3; exact rsign_3 w
  by_cases h4 : op = 4
  · subst h4; exact rsign_4 w
  by_cases h5 : op = 5
  · subst h5; exact rsign_5 w
  by_cases h6 : op = 6
  · subst h6; exact rsign_6 w
  by_cases h7 : op = 7
  · subst h7; exact rsign_7 w
  by_cases h8 : op = 8
  · subst h8; exact rsign_8 w
  by_cases h9 : op = 9
  · subst h9; exact rsign_9 w
  by_cases h10 : op = 10
  · subst h10; exact rsign_10 w
  by_cases h11 : op = 11
  · subst h11; exact rsign_11 w
  by_cases h12 : op = 12
  · subst h12; exact rsign_12 w
  by_cases h13 : op = 13
  · subst h13; exact rsign_13 w
  by_cases h14 : op = 14
  · subst h14; exact rsign_14 w
  by_cases h15 : op = 15
  · subst h15; exact rsign_15 w
  by_cases h16 : op = 16
  · subst h16; exact rsign_16 w
  by_cases h17 : op = 17
  · subst h17; exact rsign_17 w
  by_cases h18 : op = 18
  · subst h18; exact rsign_18 w
  by_cases h19 : op = 19
  · subst h19; exact rsign_19 w
  have k : signS op = ⟨#[]⟩ ∧ signB op = false := by
    have hq : ¬ (1 ≤ op ∧ op ≤ 19) := by omega
    simp [signS, signB, levelN, h1, h2, h3, h4, h5, h6, h7, h8, h9, h10, h11, h12, h13, h14, h15, h16, h17, h18, h19]
    omega
  rw [k.1, k.2]
  have h : op < 1 ∨ 19 < op := by omega
  clear k h1 h2 h3 h4 h5 h6 h7 h8 h9 h10 h11 h12 h13 h14 h15 h16 h17 h18 h19
  rcases h with h | h
  all_goals
    go_enter Try.func26, Try.ntmps26
    go_wp2
    go_ret2
    exact ⟨rfl, Below.refl _ _⟩
set_option maxHeartbeats 1600000 in
theorem rlevel_1 (w : World) :
    Calls Try.prog 28 #[.int .i64 1] w fun e w' => e = .returned (.int .i64 (levelN 1)) ∧ Below w.heap.size w w' := by
  go_enter Try.func28, Try.ntmps28
  go_wp2
  go_ret
  exact ⟨by simp [signS, signB, levelN], by first | exact Below.refl _ _ | exact (Below.refl _ _).alloc (Nat.le_refl _) _⟩
set_option maxHeartbeats 1600000 in
theorem rlevel_2 (w : World) :
    Calls Try.prog 28 #[.int .i64 2] w fun e w' => e = .returned (.int .i64 (levelN 2)) ∧ Below w.heap.size w w' := by
  go_enter Try.func28, Try.ntmps28
  go_wp2
  go_ret
  exact ⟨by simp [signS, signB, levelN], by first | exact Below.refl _ _ | exact (Below.refl _ _).alloc (Nat.le_refl _) _⟩
set_option maxHeartbeats 1600000 in
theorem rlevel_3 (w : World) :
    Calls Try.prog 28 #[.int .i64 3] w fun e w' => e = .returned (.int .i64 (levelN 3)) ∧ Below w.heap.size w w' := by
  go_enter Try.func28, Try.ntmps28
  go_wp2
  go_ret
  exact ⟨by simp [signS, signB, levelN], by first | exact Below.refl _ _ | exact (Below.refl _ _).alloc (Nat.le_refl _) _⟩
set_option maxHeartbeats 1600000 in
theorem rlevel_4 (w : World) :
    Calls Try.prog 28 #[.int .i64 4] w fun e w' => e = .returned (.int .i64 (levelN 4)) ∧ Below w.heap.size w w' := by
  go_enter Try.func28, Try.ntmps28
  go_wp2
  go_ret
  exact ⟨by simp [signS, signB, levelN], by first | exact Below.refl _ _ | exact (Below.refl _ _).alloc (Nat.le_refl _) _⟩
set_option maxHeartbeats 1600000 in
theorem rlevel_5 (w : World) :
    Calls Try.prog 28 #[.int .i64 5] w fun e w' => e = .returned (.int .i64 (levelN 5)) ∧ Below w.heap.size w w' := by
  go_enter Try.func28, Try.ntmps28
  go_wp2
  go_ret
  exact ⟨by simp [signS, signB, levelN], by first | exact Below.refl _ _ | exact (Below.refl _ _).alloc (Nat.le_refl _) _⟩
set_option maxHeartbeats 1600000 in
theorem rlevel_6 (w : World) :
    Calls Try.prog 28 #[.int .i64 6] w fun e w' => e = .returned (.int .i64 (levelN 6)) ∧ Below w.heap.size w w' := by
  go_enter Try.func28, Try.ntmps28
  go_wp2
  go_ret
  exact ⟨by simp [signS, signB, levelN], by first | exact Below.refl _ _ | exact (Below.refl _ _).alloc (Nat.le_refl _) _⟩
set_option maxHeartbeats 1600000 in
theorem rlevel_7 (w : World) :
    Calls Try.prog 28 #[.int .i64 7] w fun e w' => e = .returned (.int .i64 (levelN 7)) ∧ Below w.heap.size w w' := by
  go_enter Try.func28, Try.ntmps28
  go_wp2
  go_ret
  exact ⟨by simp [signS, signB, levelN], by first | exact Below.refl _ _ | exact (Below.refl _ _).alloc (Nat.le_refl _) _⟩
set_option maxHeartbeats 1600000 in
theorem rlevel_8 (w : World) :
    Calls Try.prog 28 #[.int .i64 8] w fun e w' => e = .returned (.int .i64 (levelN 8)) ∧ Below w.heap.size w w' := by
  go_enter Try.func28, Try.ntmps28
  go_wp2
  go_ret
  exact ⟨by simp [signS, signB, levelN], by first | exact Below.refl _ _ | exact (Below.refl _ _).alloc (Nat.le_refl _) _⟩
set_option maxHeartbeats 1600000 in
theorem rlevel_9 (w : World) :
    Calls Try.prog 28 #[.int .i64 9] w fun e w' => e = .returned (.int .i64 (levelN 9)) ∧ Below w.heap.size w w' := by
  go_enter Try.func28, Try.ntmps28
  go_wp2
  go_ret
  exact ⟨by simp [signS, signB, levelN], by first | exact Below.refl _ _ | exact (Below.refl _ _).alloc (Nat.le_refl _) _⟩
set_option maxHeartbeats 1600000 in
theorem rlevel_10 (w : World) :
    Calls Try.prog 28 #[.int .i64 10] w fun e w' => e = .returned (.int .i64 (levelN 10)) ∧ Below w.heap.size w w' := by
  go_enter Try.func28, Try.ntmps28
  go_wp2
  go_ret
  exact ⟨by simp [signS, signB, levelN], by first | exact Below.refl _ _ | exact (Below.refl _ _).alloc (Nat.le_refl _) _⟩
set_option maxHeartbeats 1600000 in
theorem rlevel_11 (w : World) :
    Calls Try.prog 28 #[.int .i64 11] w fun e w' => e = .returned (.int .i64 (levelN 11)) ∧ Below w.heap.size w w' := by
  go_enter Try.func28, Try.ntmps28
  go_wp2
  go_ret
  exact ⟨by simp [signS, signB, levelN], by first | exact Below.refl _ _ | exact (Below.refl _ _).alloc (Nat.le_refl _) _⟩
set_option maxHeartbeats 1600000 in
theorem rlevel_12 (w : World) :
    Calls Try.prog 28 #[.int .i64 12] w fun e w' => e = .returned (.int .i64 (levelN 12)) ∧ Below w.heap.size w w' := by
  go_enter Try.func28, Try.ntmps28
  go_wp2
  go_ret
  exact ⟨by simp [signS, signB, levelN], by first | exact Below.refl _ _ | exact (Below.refl _ _).alloc (Nat.le_refl _) _⟩
set_option maxHeartbeats 1600000 in
theorem rlevel_13 (w : World) :
    Calls Try.prog 28 #[.int .i64 13] w fun e w' => e = .returned (.int .i64 (levelN 13)) ∧ Below w.heap.size w w' := by
  go_enter Try.func28, Try.ntmps28
  go_wp2
  go_ret
  exact ⟨by simp [signS, signB, levelN], by first | exact Below.refl _ _ | exact (Below.refl _ _).alloc (Nat.le_refl _) _⟩
set_option maxHeartbeats 1600000 in
theorem rlevel_14 (w : World) :
    Calls Try.prog 28 #[.int .i64 14] w fun e w' => e = .returned (.int .i64 (levelN 14)) ∧ Below w.heap.size w w' := by
  go_enter Try.func28, Try.ntmps28
  go_wp2
  go_ret
  exact ⟨by simp [signS, signB, levelN], by first | exact Below.refl _ _ | exact (Below.refl _ _).alloc (Nat.le_refl _) _⟩
set_option maxHeartbeats 1600000 in
theorem rlevel_15 (w : World) :
    Calls Try.prog 28 #[.int .i64 15] w fun e w' => e = .returned (.int .i64 (levelN 15)) ∧ Below w.heap.size w w' := by
  go_enter Try.func28, Try.ntmps28
  go_wp2
  go_ret
  exact ⟨by simp [signS, signB, levelN], by first | exact Below.refl _ _ | exact (Below.refl _ _).alloc (Nat.le_refl _) _⟩
set_option maxHeartbeats 1600000 in
theorem rlevel_16 (w : World) :
    Calls Try.prog 28 #[.int .i64 16] w fun e w' => e = .returned (.int .i64 (levelN 16)) ∧ Below w.heap.size w w' := by
  go_enter Try.func28, Try.ntmps28
  go_wp2
  go_ret
  exact ⟨by simp [signS, signB, levelN], by first | exact Below.refl _ _ | exact (Below.refl _ _).alloc (Nat.le_refl _) _⟩
set_option maxHeartbeats 1600000 in
theorem rlevel_all (op : Int) (w : World) :
    Calls Try.prog 28 #[.int .i64 op] w fun e w' => e = .returned (.int .i64 (levelN op)) ∧ Below w.heap.size w w' := by
  by_cases h1 : op = 1
  · subst h1; exact rlevel_1 w
  by_cases h2 : op = 2
  · subst h2; exact rlevel_2 w
  by_cases h3 : op = 3
  · subst h3; exact rlevel_3 w
  by_cases h4 : op = 4
  · subst h4; exact rlevel_4 w
  by_cases h5 : op = 5
  · subst h5; exact rlevel_5 w
  by_cases h6 : op = 6
  · subst h6; exact rlevel_6 w
  by_cases h7 : op = 7
  · subst h7; exact rlevel_7 w
  by_cases h8 : op = 8
  · subst h8; exact rlevel_8 w
  by_cases h9 : op = 9
  · subst h9; exact rlevel_9 w
  by_cases h10 : op = 10
  · subst h10; exact rlevel_10 w
  by_cases h11 : op = 11
  · subst h11; exact rlevel_11 w
  by_cases h12 : op = 12
  · subst h12; exact rlevel_12 w
  by_cases h13 : op = 13
  · subst h13; exact rlevel_13 w
  by_cases h14 : op = 14
  · subst h14; exact rlevel_14 w
  by_cases h15 : op = 15
  · subst h15; exact rlevel_15 w
  by_cases h16 : op = 16
  · subst h16; exact rlevel_16 w
  have k : levelN op = 0 := by
    have hq : ¬ (1 ≤ op ∧ op ≤ 16) := by omega
    simp [signS, signB, levelN, h1, h2, h3, h4, h5, h6, h7, h8, h9, h10, h11, h12, h13, h14, h15, h16]
  rw [k]
  have h : op < 1 ∨ 16 < op := by omega
  clear k h1 h2 h3 h4 h5 h6 h7 h8 h9 h10 h11 h12 h13 h14 h15 h16
  rcases h with h | h
  all_goals
    go_enter Try.func28, Try.ntmps28
    go_wp2
    go_ret
    exact ⟨rfl, Below.refl _ _⟩
end Go.Proofs.Ytlnpfpaacgojpaa
