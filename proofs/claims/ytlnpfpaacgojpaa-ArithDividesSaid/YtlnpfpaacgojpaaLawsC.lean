import Derived.Test.YtlnpfpaacgojpaaBase
namespace Go.Proofs.Ytlnpfpaacgojpaa
open Go.RowKit
set_option maxHeartbeats 1600000 in
theorem divides_0 (a : Int) (w : World) :
    Calls Try.prog 4 #[.int .i64 a, .int .i64 0] w fun e w' => e = .returned (.bool true) ∧ Below w.heap.size w w' := by
  go_enter Try.func4, Try.ntmps4
  go_wp2_with (first 
      | (go_at_call 13; (with_reducible refine (awake_true _).mono ?_); rintro e w1 ⟨rfl, hb1⟩) 
      | (go_at_call 17; (with_reducible refine (div_0 _ _).mono ?_); rintro e w2 ⟨rfl, rfl⟩) 
      | (go_at_call 19; (with_reducible refine (rem_0 _ _).mono ?_); rintro e w2 ⟨rfl, rfl⟩) 
      )
  go_ret
  exact ⟨ret_b (by simp), hb1⟩
set_option maxHeartbeats 1600000 in
theorem divides_core (a b : Int) (hb : b ≠ 0) (hb' : (b == 0) = false) (n1 : -9223372036854775808 ≤ a.tmod b) (n2 : a.tmod b ≤ 9223372036854775807) (n3 : -9223372036854775808 ≤ b) (n4 : b ≤ 9223372036854775807)
    (h : 0 ≤ a.tmod b ∧ 0 ≤ a ∨ a.tmod b ≤ 0 ∧ a ≤ 0) (hm : 0 ≤ a → 0 ≤ a % b) (hn : 0 < a.tmod b → 0 < a) (hn' : a.tmod b < 0 → a < 0) (h' : 0 < b ∧ a.tmod b < b ∧ - b < a.tmod b ∨ b < 0 ∧ b < a.tmod b ∧ a.tmod b < -b) (he : 0 ≤ a → a.tmod b = a % b)
    (hf : wrap64 (wrap64 (wrap64 (a.tdiv b) * b) + a.tmod b) = a) (w : World) :
    Calls Try.prog 4 #[.int .i64 a, .int .i64 b] w fun e w' => e = .returned (.bool true) ∧ Below w.heap.size w w' := by
  by_cases hr : a.tmod b = 0
  · have hr' : (a.tmod b == 0) = true := by simpa using hr
    have hr1 : 0 ≤ a.tmod b := by omega
    have hr2 : a.tmod b ≤ 0 := by omega
    clear h hn hn' h' he n1 n2 hr hm
    go_enter Try.func4, Try.ntmps4
    go_wp2_with (first 
      | (go_at_call 13; (with_reducible refine (awake_true _).mono ?_); rintro e w1 ⟨rfl, hb1⟩) 
      | (go_at_call 17; (with_reducible refine (div_any _ _ _ hb).mono ?_); rintro e w2 ⟨rfl, rfl⟩) 
      | (go_at_call 19; (with_reducible refine (rem_any _ _ _ hb).mono ?_); rintro e w2 ⟨rfl, rfl⟩) 
      | (go_at_call 15; (with_reducible refine (two_3 _ _ _).mono ?_); rintro e w2 ⟨rfl, hb2⟩) 
      | (go_at_call 15; (with_reducible refine (two_4 _ _ hb _).mono ?_); rintro e w2 ⟨rfl, hb2⟩) 
      | (go_at_call 15; (with_reducible refine (two_5 _ _ hb _).mono ?_); rintro e w2 ⟨rfl, hb2⟩) 
      )
    all_goals first
      | (go_ret; exact ⟨ret_b (by first | rfl | (simp; done) | (simp; omega)), by repeat (first | assumption | refine Below.tr ?_ (by assumption))⟩)
  · have hr' : (a.tmod b == 0) = false := by simpa using hr
    rcases h with ⟨hs, ha⟩ | ⟨hs, ha⟩
    · have he' := he ha
      have hf' := hf
      rw [he'] at hf'
      have hm' := hm ha
      have ha2 : 0 < a := hn (by omega)
      have hs2 : 0 < a.tmod b := by omega
      have hs3 : 0 < a % b := by omega
      have hs4 : (a % b == 0) = false := by simp; omega
      have nb1 : - 9223372036854775808 ≤ a % b := by omega
      have nb2 : a % b ≤ 9223372036854775807 := by omega
      rcases h' with ⟨p, q, r⟩ | ⟨p, q, r⟩
      · have q2 : a % b < b := by omega
        have q3 : - b < a % b := by omega
        clear he he' hn hn' hm hr
        go_enter Try.func4, Try.ntmps4
        go_wp2_with (first 
          | (go_at_call 13; (with_reducible refine (awake_true _).mono ?_); rintro e w1 ⟨rfl, hb1⟩) 
          | (go_at_call 17; (with_reducible refine (div_any _ _ _ hb).mono ?_); rintro e w2 ⟨rfl, rfl⟩) 
          | (go_at_call 19; (with_reducible refine (rem_any _ _ _ hb).mono ?_); rintro e w2 ⟨rfl, rfl⟩) 
          | (go_at_call 15; (with_reducible refine (two_3 _ _ _).mono ?_); rintro e w2 ⟨rfl, hb2⟩) 
          | (go_at_call 15; (with_reducible refine (two_4 _ _ hb _).mono ?_); rintro e w2 ⟨rfl, hb2⟩) 
          | (go_at_call 15; (with_reducible refine (two_5 _ _ hb _).mono ?_); rintro e w2 ⟨rfl, hb2⟩) 
          )
        all_goals first
          | (go_ret; exact ⟨ret_b (by first | rfl | (simp; done) | (simp; omega)), by repeat (first | assumption | refine Below.tr ?_ (by assumption))⟩)
          | (exfalso; apply (by assumption : ¬ wrap64 (wrap64 (wrap64 (a.tdiv b) * b) + a % b) = a); exact hf')
      · have q2 : a % b < - b := by omega
        have q3 : b < a % b := by omega
        have q4 : b < - (a % b) := by omega
        have q5 : b < - (a.tmod b) := by omega
        clear he he' hn hn' hm hr
        go_enter Try.func4, Try.ntmps4
        go_wp2_with (first 
          | (go_at_call 13; (with_reducible refine (awake_true _).mono ?_); rintro e w1 ⟨rfl, hb1⟩) 
          | (go_at_call 17; (with_reducible refine (div_any _ _ _ hb).mono ?_); rintro e w2 ⟨rfl, rfl⟩) 
          | (go_at_call 19; (with_reducible refine (rem_any _ _ _ hb).mono ?_); rintro e w2 ⟨rfl, rfl⟩) 
          | (go_at_call 15; (with_reducible refine (two_3 _ _ _).mono ?_); rintro e w2 ⟨rfl, hb2⟩) 
          | (go_at_call 15; (with_reducible refine (two_4 _ _ hb _).mono ?_); rintro e w2 ⟨rfl, hb2⟩) 
          | (go_at_call 15; (with_reducible refine (two_5 _ _ hb _).mono ?_); rintro e w2 ⟨rfl, hb2⟩) 
          )
        all_goals first
          | (go_ret; exact ⟨ret_b (by first | rfl | (simp; done) | (simp; omega)), by repeat (first | assumption | refine Below.tr ?_ (by assumption))⟩)
          | (exfalso; apply (by assumption : ¬ wrap64 (wrap64 (wrap64 (a.tdiv b) * b) + a % b) = a); exact hf')
    · have hs2 : a.tmod b < 0 := by omega
      have ha2 : a < 0 := hn' hs2
      rcases h' with ⟨p, q, r⟩ | ⟨p, q, r⟩
      all_goals
        have r2 : (- (a.tmod b) < b) ∨ (b < - (a.tmod b)) := by omega
        clear he hn hn' hm hr
        go_enter Try.func4, Try.ntmps4
        go_wp2_with (first 
          | (go_at_call 13; (with_reducible refine (awake_true _).mono ?_); rintro e w1 ⟨rfl, hb1⟩) 
          | (go_at_call 17; (with_reducible refine (div_any _ _ _ hb).mono ?_); rintro e w2 ⟨rfl, rfl⟩) 
          | (go_at_call 19; (with_reducible refine (rem_any _ _ _ hb).mono ?_); rintro e w2 ⟨rfl, rfl⟩) 
          | (go_at_call 15; (with_reducible refine (two_3 _ _ _).mono ?_); rintro e w2 ⟨rfl, hb2⟩) 
          | (go_at_call 15; (with_reducible refine (two_4 _ _ hb _).mono ?_); rintro e w2 ⟨rfl, hb2⟩) 
          | (go_at_call 15; (with_reducible refine (two_5 _ _ hb _).mono ?_); rintro e w2 ⟨rfl, hb2⟩) 
          )
        all_goals first
          | (go_ret; exact ⟨ret_b (by first | rfl | (simp; done) | (simp; omega)), by repeat (first | assumption | refine Below.tr ?_ (by assumption))⟩)
          | (exfalso; apply (by assumption : ¬ wrap64 (wrap64 (wrap64 (a.tdiv b) * b) + a % b) = a); exact hf')
theorem divides_walk (a b : Int) (w0 : (Lit.int .i64 a).wf = true) (w1 : (Lit.int .i64 b).wf = true) (w : World) :
    Calls Try.prog 4 #[.int .i64 a, .int .i64 b] w fun e w' => e = .returned (.bool true) ∧ Below w.heap.size w w' := by
  obtain ⟨h1, h2⟩ := bnd64 w0
  obtain ⟨h3, h4⟩ := bnd64 w1
  by_cases hb : b = 0
  · subst hb; exact divides_0 a w
  · have hb' : (b == 0) = false := by simpa using hb
    have e := Int.mul_tdiv_add_tmod a b
    have hab : wrap64 (wrap64 (wrap64 (a.tdiv b) * b) + a.tmod b) = a := by
      rw [wrap64_mul, wrap64_add, Int.mul_comm, e, wrap64_of ⟨h1, h2⟩]
    have l1 : (a.tmod b).natAbs < b.natAbs := by rw [Int.natAbs_tmod]; exact Nat.mod_lt _ (by omega)
    have l2 : (a.tmod b).natAbs ≤ a.natAbs := by rw [Int.natAbs_tmod]; exact Nat.mod_le _ _
    have l3 : 0 ≤ a → 0 ≤ a.tmod b := fun h => Int.tmod_nonneg _ h
    have l4 : a ≤ 0 → a.tmod b ≤ 0 := fun h => by
      have := Int.tmod_nonneg (a := -a) b (by omega)
      rw [Int.neg_tmod] at this; omega
    have l5 : 0 ≤ a → a.tmod b = a % b := fun h => Int.tmod_eq_emod_of_nonneg h
    have l6 : 0 ≤ a % b := Int.emod_nonneg _ hb
    refine divides_core a b hb hb' (by omega) (by omega) h3 h4 ?_ (fun _ => l6) ?_ ?_ ?_ l5 hab w
    · by_cases h : 0 ≤ a
      · exact .inl ⟨l3 h, h⟩
      · exact .inr ⟨l4 (by omega), by omega⟩
    · intro h; by_cases h' : a ≤ 0
      · have := l4 h'; omega
      · omega
    · intro h; by_cases h' : 0 ≤ a
      · have := l3 h'; omega
      · omega
    · omega
end Go.Proofs.Ytlnpfpaacgojpaa
