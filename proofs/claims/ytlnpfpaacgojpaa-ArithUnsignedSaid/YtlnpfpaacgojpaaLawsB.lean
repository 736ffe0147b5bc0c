import Derived.Test.YtlnpfpaacgojpaaBase
namespace Go.Proofs.Ytlnpfpaacgojpaa
open Go.RowKit
set_option maxHeartbeats 1600000 in
theorem sums_walk (a b c : Int) (w0 : (Lit.int .i64 a).wf = true) (w1 : (Lit.int .i64 b).wf = true) (w2 : (Lit.int .i64 c).wf = true) (w : World) :
    Calls Try.prog 9 #[.int .i64 a, .int .i64 b, .int .i64 c] w fun e w' => e = .returned (.bool true) ∧ Below w.heap.size w w' := by
  have h0 := bnd64 w0
  clear w0 w1 w2
  have f1 : (wrap64 (a + b) == wrap64 (b + a)) = true := by rw [Int.add_comm]; simp
  have f2 : (wrap64 (wrap64 (a + b) - b) == a) = true := by rw [wrap64_sub, Int.add_sub_cancel, wrap64_of h0]; simp
  have f3 : (wrap64 (wrap64 (a + b) * c) == wrap64 (wrap64 (a * c) + wrap64 (c * b))) = true := by
    rw [wrap64_mul, wrap64_add, wrap64_add', Int.add_mul, Int.mul_comm c b]; simp
  have f4 : (wrap64 (a - b) == wrap64 (a + wrap64 (-b))) = true := by
    rw [wrap64_add', Int.sub_eq_add_neg]; simp
  clear h0
  go_enter Try.func9, Try.ntmps9
  go_wp2_with (first 
    | (go_at_call 13; (with_reducible refine (awake_true _).mono ?_); rintro e w1 ⟨rfl, hb1⟩) 
    | (go_at_call 15; (with_reducible refine (two_1 _ _ _).mono ?_); rintro e w2 ⟨rfl, hb2⟩) 
    | (go_at_call 15; (with_reducible refine (two_2 _ _ _).mono ?_); rintro e w2 ⟨rfl, hb2⟩) 
    | (go_at_call 15; (with_reducible refine (two_3 _ _ _).mono ?_); rintro e w2 ⟨rfl, hb2⟩) 
    | (go_at_call 23; (with_reducible refine (one_17 _ _).mono ?_); rintro e w2 ⟨rfl, hb2⟩) 
    )
  go_ret
  exact ⟨by first | rfl | (rw [beq_iff_eq] at f4; rw [f4]; simp), by repeat (first | assumption | refine Below.tr ?_ (by assumption))⟩
theorem lessN_lt {a b : Int} (h : IntKind.u64.wrap a < IntKind.u64.wrap b) : lessN a b = true := by unfold lessN; simp [h]
theorem lessN_ge {a b : Int} (h : ¬ IntKind.u64.wrap a < IntKind.u64.wrap b) : lessN a b = false := by unfold lessN; simp only [decide_eq_false_iff_not]; exact h
set_option maxHeartbeats 1600000 in
theorem unsigned_core (a b : Int) (x y z s t l : Bool) (hx : lessN a b = x) (hy : lessN b a = y) (hz : (a == b) = z) (hs : decide (a < 0) = s) (ht : decide (b < 0) = t) (hl : decide (a < b) = l)
    (h : (x = true ∧ y = false ∧ z = false ∨ x = false ∧ y = true ∧ z = false ∨ x = false ∧ y = false ∧ z = true) ∧ ((s == t) = true → x = l) ∧ ((s == t) = false → x = t))  (w : World) :
    Calls Try.prog 10 #[.int .i64 a, .int .i64 b] w fun e w' => e = .returned (.bool true) ∧ Below w.heap.size w w' := by
  obtain ⟨h, h', h''⟩ := h
  cases s <;> cases t <;> rcases h with ⟨rfl, rfl, rfl⟩ | ⟨rfl, rfl, rfl⟩ | ⟨rfl, rfl, rfl⟩ <;> simp at h' h''
  all_goals try subst h'
  all_goals clear h''
  all_goals
    go_enter Try.func10, Try.ntmps10
    go_wp2_with (first 
      | (go_at_call 13; (with_reducible refine (awake_true _).mono ?_); rintro e w1 ⟨rfl, hb1⟩) 
      | (go_at_call 21; (with_reducible refine (less_any _ _ _).mono ?_); rintro e w2 ⟨rfl, rfl⟩) 
      )
    go_ret
    exact ⟨by first | rfl | (simp_all), hb1⟩
theorem unsigned_walk (a b : Int) (w0 : (Lit.int .i64 a).wf = true) (w1 : (Lit.int .i64 b).wf = true) (w : World) :
    Calls Try.prog 10 #[.int .i64 a, .int .i64 b] w fun e w' => e = .returned (.bool true) ∧ Below w.heap.size w w' := by
  have h1 := bnd64 w0
  have h3 := bnd64 w1
  have ea : IntKind.u64.wrap a = if a < 0 then a + 18446744073709551616 else a := by rw [IntKind.wrap_u64]; split <;> omega
  have eb : IntKind.u64.wrap b = if b < 0 then b + 18446744073709551616 else b := by rw [IntKind.wrap_u64]; split <;> omega
  refine unsigned_core a b _ _ _ _ _ _ rfl rfl rfl rfl rfl rfl ?_ w
  unfold lessN
  rw [ea, eb]
  generalize hM : (18446744073709551616 : Int) = M at *
  refine ⟨?_, ?_, ?_⟩
  · rcases Int.lt_trichotomy a b with h | h | h <;> by_cases ha : a < 0 <;> by_cases hb : b < 0 <;> simp [ha, hb] <;> omega
  · by_cases ha : a < 0 <;> by_cases hb : b < 0 <;> simp [ha, hb] <;> omega
  · by_cases ha : a < 0 <;> by_cases hb : b < 0 <;> simp [ha, hb] <;> omega
end Go.Proofs.Ytlnpfpaacgojpaa
