import Derived.Test.YtlnpfpaacgojpaaBase
namespace Go.Proofs.Ytlnpfpaacgojpaa
open Go.RowKit
theorem shiftOf_of {m : Int} (h : 0 ≤ m ∧ m < 64) : shiftOf m = m.toNat := by unfold shiftOf; omega
theorem mod_small {a p : Int} (p0 : 0 < p) (p1 : p ≤ 2147483648) : wrap64 (a % p) = a % p := by
  have h1 := Int.emod_nonneg a (Int.ne_of_gt p0)
  have h2 := Int.emod_lt_of_pos a p0
  generalize a % p = x at *
  exact wrap64_of ⟨by omega, by omega⟩
theorem in_small {p : Int} (p0 : 0 < p) (p1 : p ≤ 2147483648) : wrap64 p = p := wrap64_of ⟨by omega, by omega⟩
theorem pow_small {i : Nat} (h : i ≤ 31) : (2 : Int) ^ i ≤ 2147483648 := by
  have k : 2 ^ i ≤ 2 ^ 31 := Nat.pow_le_pow_right (by decide) h
  have e : (2 : Int) ^ i = ((2 ^ i : Nat) : Int) := by simp
  rw [e]
  omega
set_option maxHeartbeats 1600000 in
theorem shifts_core (a one two : Int) (h1 : -9223372036854775808 ≤ one ∧ one ≤ 9223372036854775807) (h2 : -9223372036854775808 ≤ two ∧ two ≤ 9223372036854775807) (m n : Int) (hm0 : 0 ≤ m) (hm : m < 32) (hn0 : 0 ≤ n) (hn : n < 32) (em : Hid (pickN one 32 = m)) (en : Hid (pickN two 32 = n)) (w : World) :
    Calls Try.prog 8 #[.int .i64 a, .int .i64 one, .int .i64 two] w fun e w' => e = .returned (.bool true) ∧ Below w.heap.size w w' := by
  have s1 : shiftOf m = m.toNat := shiftOf_of ⟨hm0, by omega⟩
  have s2 : shiftOf n = n.toNat := shiftOf_of ⟨hn0, by omega⟩
  have s3 : shiftOf (m + n) = m.toNat + n.toNat := by rw [shiftOf_of ⟨by omega, by omega⟩]; omega
  obtain ⟨i, hi⟩ : ∃ i : Nat, i = m.toNat := ⟨_, rfl⟩
  obtain ⟨j, hj⟩ : ∃ j : Nat, j = n.toNat := ⟨_, rfl⟩
  have p1 : (2 : Int) ^ i ≤ 2147483648 := by
    exact pow_small (by omega)
  have p0 : 0 < (2 : Int) ^ i := Int.pow_pos (by decide)
  have e0 : wrap64 (2 ^ m.toNat) = 2 ^ i := by rw [← hi]; exact in_small p0 p1
  have f1 : wrap64 (wrap64 (a * 2 ^ shiftOf m) * 2 ^ shiftOf n) = wrap64 (a * 2 ^ shiftOf (m + n)) := by
    rw [wrap64_mul, s1, s2, s3, Int.pow_add, Int.mul_assoc]
  have f2 : a / 2 ^ shiftOf m / 2 ^ shiftOf n = a / 2 ^ shiftOf (m + n) := by
    rw [s1, s2, s3, Int.pow_add, Int.ediv_ediv_of_nonneg (Int.le_of_lt (Int.pow_pos (by decide)))]
  have f3 : wrap64 (a * wrap64 (2 ^ m.toNat)) = wrap64 (a * 2 ^ shiftOf m) := by rw [s1, wrap64_mul']
  have f4 : wrap64 (a - wrap64 (a / 2 ^ shiftOf m * wrap64 (2 ^ m.toNat))) = a % 2 ^ i := by
    rw [s1, wrap64_mul', wrap64_sub', ← hi, Int.mul_comm, ← Int.emod_def]
    exact mod_small p0 p1
  have f5 : 0 ≤ a % 2 ^ i := Int.emod_nonneg a (Int.ne_of_gt p0)
  have f6 : a % 2 ^ i < 2 ^ i := Int.emod_lt_of_pos a p0
  clear s1 s2 s3 hj hi p1 p0
  have E0 := Lib.hid e0
  have F1 := Lib.hid f1
  have F2 := Lib.hid f2
  have F3 := Lib.hid f3
  have F4 := Lib.hid f4
  clear e0 f1 f2 f3 f4
  have H1 := Lib.hid h1
  have H2 := Lib.hid h2
  clear h1 h2
  go_enter Try.func8, Try.ntmps8
  go_wp2_with (first 
    | (go_at_call 13; (with_reducible refine (awake_true _).mono ?_); rintro e w1 ⟨rfl, hb1⟩) 
    | (go_at_call 14; (with_reducible refine (pick_any one 32 H1.out (by decide) _).mono ?_); rintro e w2 ⟨rfl, rfl⟩; rw [em.out]) 
    | (go_at_call 14; (with_reducible refine (pick_any two 32 H2.out (by decide) _).mono ?_); rintro e w2 ⟨rfl, rfl⟩; rw [en.out]) 
    | (go_at_call 15; (with_reducible refine (two_9 _ _ _).mono ?_); rintro e w2 ⟨rfl, hb2⟩) 
    | (go_at_call 15; (with_reducible refine (two_10 _ _ _).mono ?_); rintro e w2 ⟨rfl, hb2⟩) 
    | (go_at_call 15; (with_reducible refine (two_3 _ _ _).mono ?_); rintro e w2 ⟨rfl, hb2⟩) 
    )
  all_goals first
    | (exfalso; apply (by assumption : ¬ _); first | exact F1.out | exact F2.out | exact F3.out.symm)
    | (go_ret; exact ⟨ret_b (by rw [F4.out, E0.out]; simp [f5, f6]), by repeat (first | assumption | refine Below.tr ?_ (by assumption))⟩)
    | (exfalso; have q4 := F4.out; have q5 := f5; omega)
theorem shifts_walk (a one two : Int) (w0 : (Lit.int .i64 a).wf = true) (w1 : (Lit.int .i64 one).wf = true) (w2 : (Lit.int .i64 two).wf = true) (w : World) :
    Calls Try.prog 8 #[.int .i64 a, .int .i64 one, .int .i64 two] w fun e w' => e = .returned (.bool true) ∧ Below w.heap.size w w' := by
  have p1 := pickN_lt one (n := 32) (by decide)
  have p2 := pickN_lt two (n := 32) (by decide)
  exact shifts_core a one two (bnd64 w1) (bnd64 w2) _ _ p1.1 p1.2 p2.1 p2.2 rfl rfl w
end Go.Proofs.Ytlnpfpaacgojpaa
