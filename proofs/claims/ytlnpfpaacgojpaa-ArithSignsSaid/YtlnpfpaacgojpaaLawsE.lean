import Derived.Test.YtlnpfpaacgojpaaArithAll
import Derived.Test.YtlnpfpaacgojpaaBase
namespace Go.Proofs.Ytlnpfpaacgojpaa
open Go.RowKit
theorem sign_unlike (a b : Int) (ha : 1 ≤ a ∧ a ≤ 16) (hb : 1 ≤ b ∧ b ≤ 16) : ((signS a).toList == (signS b).toList) = (a == b) := by
  have key : ∀ i : Fin 16, ∀ j : Fin 16, ((signS ((i.val : Int) + 1)).data.toList == (signS ((j.val : Int) + 1)).data.toList) = (i == j) := by decide
  have k := key ⟨(a - 1).toNat, by omega⟩ ⟨(b - 1).toNat, by omega⟩
  rw [show (((a - 1).toNat : Nat) : Int) + 1 = a from by omega, show (((b - 1).toNat : Nat) : Int) + 1 = b from by omega] at k
  rw [ByteArray.toList_eq, ByteArray.toList_eq, k]
  by_cases h : a = b
  · subst h; simp
  · rw [show (a == b) = false from by simpa using h]
    have e2 : ¬ ((⟨(a - 1).toNat, by omega⟩ : Fin 16) = ⟨(b - 1).toNat, by omega⟩) := by intro c; have := congrArg Fin.val c; simp at this; omega
    simpa using e2
theorem sign_facts (a : Int) (ha : 1 ≤ a ∧ a ≤ 16) : signB a = true ∧ oneB a = false ∧ twoB a 1 = true ∧ 1 ≤ levelN a ∧ levelN a ≤ 8 ∧ levelN (a + 16) = 0 := by
  have key : ∀ i : Fin 16, signB ((i.val : Int) + 1) = true ∧ oneB ((i.val : Int) + 1) = false ∧ twoB ((i.val : Int) + 1) 1 = true ∧ 1 ≤ levelN ((i.val : Int) + 1) ∧ levelN ((i.val : Int) + 1) ≤ 8 ∧ levelN ((i.val : Int) + 1 + 16) = 0 := by decide
  have k := key ⟨(a - 1).toNat, by omega⟩
  rwa [show (((a - 1).toNat : Nat) : Int) + 1 = a from by omega] at k
set_option maxHeartbeats 1600000 in
theorem signs_walk (one two : Int) (w0 : (Lit.int .i64 one).wf = true) (w1 : (Lit.int .i64 two).wf = true) (w : World) :
    Calls Try.prog 7 #[.int .i64 one, .int .i64 two] w fun e w' => e = .returned (.bool true) ∧ Below w.heap.size w w' := by
  have p1 := pickN_lt one (n := 16) (by decide)
  have p2 := pickN_lt two (n := 16) (by decide)
  have H1 := Lib.hid (bnd64 w0)
  have H2 := Lib.hid (bnd64 w1)
  clear w0 w1
  have u := sign_unlike (1 + pickN one 16) (1 + pickN two 16) (by omega) (by omega)
  obtain ⟨f1, f2, f3, f4, f5, f6⟩ := sign_facts (1 + pickN one 16) (by omega)
  obtain ⟨g1, -, -, -, -, -⟩ := sign_facts (1 + pickN two 16) (by omega)
  generalize em : pickN one 16 = m at *
  generalize en : pickN two 16 = n at *
  have EM := Lib.hid em
  have EN := Lib.hid en
  clear em en
  obtain ⟨p11, p12⟩ := p1
  obtain ⟨p21, p22⟩ := p2
  go_enter Try.func7, Try.ntmps7
  go_wp2_with (first 
    | (go_at_call 13; (with_reducible refine (awake_true _).mono ?_); rintro e w1 ⟨rfl, hb1⟩) 
    | (go_at_call 14; (with_reducible refine (pick_any one 16 H1.out (by decide) _).mono ?_); rintro e w2 ⟨rfl, rfl⟩; rw [EM.out]) 
    | (go_at_call 14; (with_reducible refine (pick_any two 16 H2.out (by decide) _).mono ?_); rintro e w2 ⟨rfl, rfl⟩; rw [EN.out]) 
    | (go_at_call 25; (with_reducible refine (sign_all _ _).mono ?_); rintro e w2 ⟨rfl, hb2⟩) 
    | (go_at_call 23; (with_reducible refine (one_all _ _ _).mono ?_); rintro e w2 ⟨rfl, hb2⟩) 
    | (go_at_call 15; (with_reducible refine (two_all _ _ _ _).mono ?_); rintro e w2 ⟨rfl, hb2⟩) 
    | (go_at_call 27; (with_reducible refine (level_all _ _).mono ?_); rintro e w2 ⟨rfl, hb2⟩) 
    )
  all_goals first
    | (go_ret; exact ⟨ret_b (by first | rfl | (simp; done) | (simp; omega)), by repeat (first | assumption | refine Below.tr ?_ (by assumption))⟩)
theorem nothing_facts (o a b : Int) (h : o < 1 ∨ 19 < o) : twoN o a b = 0 ∧ twoB o b = false ∧ oneN o a = 0 ∧ oneB o = false ∧ signS o = ⟨#[]⟩ ∧ signB o = false ∧ levelN o = 0 := by
  have h1 : ∀ k : Int, 1 ≤ k → k ≤ 19 → ¬ o = k := fun k _ _ c => by omega
  have hh : ∀ k : Int, (decide (1 ≤ k) && decide (k ≤ 19)) = true → ¬ o = k := fun k q => h1 k (by simp at q; omega) (by simp at q; omega)
  have hq : ¬ (1 ≤ o ∧ o ≤ 16) := by omega
  have hq2 : ¬ (17 ≤ o ∧ o ≤ 19) := by omega
  have hq3 : ¬ (1 ≤ o ∧ o ≤ 19) := by omega
  have e1 := hh 1 rfl; have e2 := hh 2 rfl; have e3 := hh 3 rfl; have e4 := hh 4 rfl; have e5 := hh 5 rfl; have e6 := hh 6 rfl; have e7 := hh 7 rfl; have e8 := hh 8 rfl; have e9 := hh 9 rfl; have e10 := hh 10 rfl
  have e11 := hh 11 rfl; have e12 := hh 12 rfl; have e13 := hh 13 rfl; have e14 := hh 14 rfl; have e15 := hh 15 rfl; have e16 := hh 16 rfl; have e17 := hh 17 rfl; have e18 := hh 18 rfl; have e19 := hh 19 rfl
  refine ⟨?_, ?_, ?_, ?_, ?_, ?_, ?_⟩
  · simp [twoN, *]
  · simp [twoB]; omega
  · simp [oneN, *]
  · simp [oneB]; omega
  · simp [signS, *]
  · simp [signB]; omega
  · simp [levelN, *]
set_option maxHeartbeats 1600000 in
theorem nothing_walk (op a b : Int) (w0 : (Lit.int .i64 op).wf = true) (w1 : (Lit.int .i64 a).wf = true) (w2 : (Lit.int .i64 b).wf = true) (w : World) :
    Calls Try.prog 12 #[.int .i64 op, .int .i64 a, .int .i64 b] w fun e w' => e = .returned (.bool true) ∧ Below w.heap.size w w' := by
  have p1 := pickN_lt op (n := 1099511627776) (by decide)
  have H1 := Lib.hid (bnd64 w0)
  clear w0 w1 w2
  generalize em : pickN op 1099511627776 = m at *
  have EM := Lib.hid em
  clear em
  obtain ⟨p11, p12⟩ := p1
  obtain ⟨zs, z0, z1, z2⟩ : ∃ zs : Nat → Int, zs 0 = 20 + m ∧ zs 1 = -(20 + m) ∧ zs 2 = 0 := ⟨fun j => if j = 0 then 20 + m else if j = 1 then -(20 + m) else 0, rfl, rfl, rfl⟩
  have Z0 := Lib.hid z0
  have Z1 := Lib.hid z1
  have Z2 := Lib.hid z2
  clear z0 z1 z2
  go_enter Try.func12, Try.ntmps12
  go_wp2_with (first 
    | (go_at_call 13; (with_reducible refine (awake_true _).mono ?_); rintro e w1 ⟨rfl, hb1⟩) 
    | (go_at_call 14; (with_reducible refine (pick_any op 1099511627776 H1.out (by decide) _).mono ?_); rintro e w2 ⟨rfl, rfl⟩; rw [EM.out]) 
    )
  have hs1 := hb1.size
  go_loopw [26] (fun i wr => ∃ k : Nat, k ≤ 3 ∧ i = .int .i64 k ∧ Below w.heap.size w wr ∧ w1.heap.size < wr.heap.size ∧ ∀ j, j < 3 → wr.cell? ⟨w1.heap.size, j, none⟩ = some (.int .i64 (zs j))) (fun i _ => 3 - (intOf i).toNat)
  case atStart =>
    refine ⟨0, by omega, rfl, hb1.alloc hs1 _, by simp, ?_⟩
    intro j hj
    have : j = 0 ∨ j = 1 ∨ j = 2 := by omega
    rcases this with rfl | rfl | rfl
    · rw [Z0.out]; go_simp
    · rw [Z1.out]; go_simp
    · rw [Z2.out]; go_simp
  case round =>
    obtain ⟨k, hk, rfl, hbw, hlt, hcells⟩ := hrel
    by_cases h3 : k < 3
    · have hcell := hcells k h3
      have hz : zs k < 1 ∨ 19 < zs k := by
        have : k = 0 ∨ k = 1 ∨ k = 2 := by omega
        rcases this with rfl | rfl | rfl
        · rw [Z0.out]; omega
        · rw [Z1.out]; omega
        · rw [Z2.out]; omega
      obtain ⟨a1, a2, a3, a4, a5, a6, a7⟩ := nothing_facts (zs k) a b hz
      have HC := Lib.hid hcells
      clear hcells hz
      go_wp2_with (first
        | (go_at_call 15; (with_reducible refine (two_all _ _ _ _).mono ?_); rintro e w2 ⟨rfl, hb2⟩)
        | (go_at_call 23; (with_reducible refine (one_all _ _ _).mono ?_); rintro e w3 ⟨rfl, hb3⟩)
        | (go_at_call 25; (with_reducible refine (sign_all _ _).mono ?_); rintro e w4 ⟨rfl, hb4⟩)
        | (go_at_call 27; (with_reducible refine (level_all _ _).mono ?_); rintro e w5 ⟨rfl, hb5⟩)
        )
      have hb6 := Below.tr (Below.tr (Below.tr hb2 hb3) hb4) hb5
      have hs6 := hb6.size
      go_roundw
      case rel => exact ⟨k + 1, by omega, by go_num, hbw.trans (hb6.mono hbw.size), by omega, fun j hj => (hb6.cell (p := ⟨w1.heap.size, j, none⟩) hlt).trans (HC.out j hj)⟩
      case measure => simp [intOf]; omega
    · go_wp2
      go_ret
      exact ⟨rfl, hbw⟩

theorem shiftOf_of {m : Int} (h : 0 ≤ m ∧ m < 64) : shiftOf m = m.toNat := by unfold shiftOf; omega
theorem shiftOf_64 (m : Int) : shiftOf (m + 64) = shiftOf m := by unfold shiftOf; omega
theorem pow_le {i : Nat} (h : i ≤ 42) : (2 : Int) ^ i ≤ 4398046511104 := by
  have k : 2 ^ i ≤ 2 ^ 42 := Nat.pow_le_pow_right (by decide) h
  have e : (2 : Int) ^ i = ((2 ^ i : Nat) : Int) := by simp
  rw [e]
  omega
theorem in_small {p : Int} (p0 : 0 < p) (p1 : p ≤ 4398046511104) : wrap64 p = p := wrap64_of ⟨by omega, by omega⟩
theorem far_in {s p : Int} (hs : 0 ≤ s ∧ s < 1048576) (p0 : 0 < p) (p1 : p ≤ 4398046511104) : wrap64 (s * p) = s * p := by
  have h1 : 0 ≤ s * p := Int.mul_nonneg hs.1 (by omega)
  have h2 : s * p ≤ 1048575 * 4398046511104 := Int.mul_le_mul (by omega) p1 (by omega) (by omega)
  exact wrap64_of ⟨by omega, by omega⟩
theorem far_42 {s : Int} (hs : 0 ≤ s ∧ s < 1048576) : wrap64 (s * 2 ^ shiftOf 42) = s * 4398046511104 := by
  have e : (2 : Int) ^ shiftOf 42 = 4398046511104 := by decide
  rw [e, far_in hs (by decide) (by decide)]
theorem near_in {s p : Int} (p0 : 0 < p) : s * p / p = s := Int.mul_ediv_cancel _ (by omega)
set_option maxRecDepth 100000 in
set_option maxHeartbeats 1600000 in
theorem bits_core (a b by_ : Int) (h1 : -9223372036854775808 ≤ a ∧ a ≤ 9223372036854775807) (h2 : -9223372036854775808 ≤ by_ ∧ by_ ≤ 9223372036854775807) (n s n' : Int) (hn0 : 0 ≤ n) (hn : n < 64) (hs0 : 0 ≤ s) (hs : s < 1048576) (hn' : 42 < n ∧ n' = 42 ∨ n ≤ 42 ∧ n' = n) (en : Hid (pickN by_ 64 = n)) (es : Hid (pickN a 1048576 = s)) (w : World) :
    Calls Try.prog 6 #[.int .i64 a, .int .i64 b, .int .i64 by_] w fun e w' => e = .returned (.bool true) ∧ Below w.heap.size w w' := by
  have F1 := Lib.hid (or_eq a b)
  have F2 := Lib.hid (or_add_and a b)
  have F3 : Hid (wrap64 (-a - 1) = wrap64 (wrap64 (-a) - 1)) := by rw [wrap64_sub]; rfl
  have F7 : Hid (wrap64 (a * 2 ^ shiftOf n) = wrap64 (a * 2 ^ shiftOf (n + 64))) := by rw [shiftOf_64]; rfl
  have F8 : Hid (wrap64 (a + b) = wrap64 (wrap64 (bits .xor .i64 a b + bits .and .i64 a b) + bits .and .i64 a b)) := by rw [← or_eq, or_add_and]; rfl
  have F4 := Lib.hid (shiftOf_64 n)
  have F5 : Hid (n = 0 → wrap64 (a * 2 ^ shiftOf n) / 2 ^ shiftOf n = a) := by
    intro h; subst h
    show wrap64 (a * 2 ^ 0) / 2 ^ 0 = a
    rw [Int.pow_zero, Int.mul_one, Int.ediv_one, wrap64_of h1]
  have F6 : Hid (wrap64 (s * 2 ^ shiftOf n') / 2 ^ shiftOf n' = s ∧ wrap64 (s * 2 ^ shiftOf n') = wrap64 (s * wrap64 (2 ^ n'.toNat))) := by
    rw [shiftOf_of (m := n') ⟨by omega, by omega⟩]
    have q0 : 0 < (2 : Int) ^ n'.toNat := Int.pow_pos (by decide)
    have q1 := pow_le (i := n'.toNat) (by omega)
    refine ⟨?_, ?_⟩
    · rw [far_in ⟨hs0, hs⟩ q0 q1, near_in q0]
    · rw [in_small q0 q1]
  have H1 := Lib.hid h1
  have H2 := Lib.hid h2
  clear h1 h2
  rcases hn' with ⟨hn', rfl⟩ | ⟨hn', rfl⟩
  all_goals
    go_enter Try.func6, Try.ntmps6
    go_wp2_with (first 
      | (go_at_call 13; (with_reducible refine (awake_true _).mono ?_); rintro e w1 ⟨rfl, hb1⟩) 
      | (go_at_call 14; (with_reducible refine (pick_any by_ 64 H2.out (by decide) _).mono ?_); rintro e w2 ⟨rfl, rfl⟩; rw [en.out]) 
      | (go_at_call 14; (with_reducible refine (pick_any a 1048576 H1.out (by decide) _).mono ?_); rintro e w2 ⟨rfl, rfl⟩; rw [es.out]) 
      | (go_at_call 15; (with_reducible refine (two_7 _ _ _).mono ?_); rintro e w2 ⟨rfl, hb2⟩) 
      | (go_at_call 15; (with_reducible refine (two_8 _ _ _).mono ?_); rintro e w2 ⟨rfl, hb2⟩) 
      | (go_at_call 15; (with_reducible refine (two_6 _ _ _).mono ?_); rintro e w2 ⟨rfl, hb2⟩) 
      | (go_at_call 15; (with_reducible refine (two_1 _ _ _).mono ?_); rintro e w2 ⟨rfl, hb2⟩) 
      | (go_at_call 15; (with_reducible refine (two_9 _ _ _).mono ?_); rintro e w2 ⟨rfl, hb2⟩) 
      | (go_at_call 15; (with_reducible refine (two_10 _ _ _).mono ?_); rintro e w2 ⟨rfl, hb2⟩) 
      | (go_at_call 23; (with_reducible refine (one_19 _ _).mono ?_); rintro e w2 ⟨rfl, hb2⟩) 
      | (go_at_call 23; (with_reducible refine (one_17 _ _).mono ?_); rintro e w2 ⟨rfl, hb2⟩) 
      )
    all_goals first
      | (exfalso; apply (by assumption : ¬ _); first | exact F1.out | exact F2.out | exact F3.out | exact F7.out | exact F8.out | exact F6.out.1)
      | (exfalso; apply (by assumption : ¬ _); first | exact F5.out (by omega) | (rw [← F7.out]; exact F5.out (by omega)))
      | (go_ret; exact ⟨ret_b (by rw [beq_iff_eq]; first | exact F6.out.2 | (exact far_42 ⟨hs0, hs⟩)), by repeat (first | assumption | refine Below.tr ?_ (by assumption))⟩)
theorem bits_walk (a b by_ : Int) (w0 : (Lit.int .i64 a).wf = true) (w1 : (Lit.int .i64 b).wf = true) (w2 : (Lit.int .i64 by_).wf = true) (w : World) :
    Calls Try.prog 6 #[.int .i64 a, .int .i64 b, .int .i64 by_] w fun e w' => e = .returned (.bool true) ∧ Below w.heap.size w w' := by
  have p1 := pickN_lt by_ (n := 64) (by decide)
  have p2 := pickN_lt a (n := 1048576) (by decide)
  by_cases h : 42 < pickN by_ 64
  · exact bits_core a b by_ (bnd64 w0) (bnd64 w2) _ _ 42 p1.1 p1.2 p2.1 p2.2 (.inl ⟨h, rfl⟩) rfl rfl w
  · exact bits_core a b by_ (bnd64 w0) (bnd64 w2) _ _ (pickN by_ 64) p1.1 p1.2 p2.1 p2.2 (.inr ⟨by omega, rfl⟩) rfl rfl w
end Go.Proofs.Ytlnpfpaacgojpaa
