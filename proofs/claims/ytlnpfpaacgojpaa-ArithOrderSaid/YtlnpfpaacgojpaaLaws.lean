import Derived.Test.YtlnpfpaacgojpaaBase
namespace Go.Proofs.Ytlnpfpaacgojpaa
open Go.RowKit
set_option maxHeartbeats 800000 in
theorem turns_walk (a : Int) (w0 : (Lit.int .i64 a).wf = true) (w : World) :
    Calls Try.prog 11 #[.int .i64 a] w fun e w' => e = .returned (.bool true) ∧ Below w.heap.size w w' := by
  obtain ⟨h1, h2⟩ := bnd64 w0
  by_cases ha : a = 0
  · subst ha
    go_enter Try.func11, Try.ntmps11
    go_wp2_with (first 
    | (go_at_call 13; (with_reducible refine (awake_true _).mono ?_); rintro e w1 ⟨rfl, hb1⟩) 
    | (go_at_call 23; (with_reducible refine (one_19 _ _).mono ?_); rintro e w2 ⟨rfl, hb2⟩) 
    | (go_at_call 23; (with_reducible refine (one_17 _ _).mono ?_); rintro e w2 ⟨rfl, hb2⟩) 
    | (go_at_call 23; (with_reducible refine (one_18 _ _).mono ?_); rintro e w2 ⟨rfl, hb2⟩) 
    )
    all_goals first
      | (exfalso; simp [wrap64, truthN] at *; done)
      | (go_ret; exact ⟨ret_b (by simp [wrap64]), by repeat (first | assumption | refine Below.tr ?_ (by assumption))⟩)
  · have ha' : (a == 0) = false := by simpa using ha
    go_enter Try.func11, Try.ntmps11
    go_wp2_with (first 
    | (go_at_call 13; (with_reducible refine (awake_true _).mono ?_); rintro e w1 ⟨rfl, hb1⟩) 
    | (go_at_call 23; (with_reducible refine (one_19 _ _).mono ?_); rintro e w2 ⟨rfl, hb2⟩) 
    | (go_at_call 23; (with_reducible refine (one_17 _ _).mono ?_); rintro e w2 ⟨rfl, hb2⟩) 
    | (go_at_call 23; (with_reducible refine (one_18 _ _).mono ?_); rintro e w2 ⟨rfl, hb2⟩) 
    )
    all_goals first
      | (exfalso; simp [wrap64, truthN] at *; omega)
      | (go_ret; exact ⟨ret_b (by rw [beq_iff_eq]; unfold wrap64; omega), by repeat (first | assumption | refine Below.tr ?_ (by assumption))⟩)
      | (go_ways)
set_option maxHeartbeats 1600000 in
theorem order_walk (a b : Int) (w0 : (Lit.int .i64 a).wf = true) (w1 : (Lit.int .i64 b).wf = true) (w : World) :
    Calls Try.prog 5 #[.int .i64 a, .int .i64 b] w fun e w' => e = .returned (.bool true) ∧ Below w.heap.size w w' := by
  have h0 : ∃ x y z : Bool, decide (a < b) = x ∧ decide (a ≤ b) = (x || y) ∧ decide (b < a) = z ∧ decide (b ≤ a) = (z || y) ∧ decide (a = b) = y ∧ decide (a ≠ b) = (!y) ∧ (x = true ∧ y = false ∧ z = false ∨ x = false ∧ y = true ∧ z = false ∨ x = false ∧ y = false ∧ z = true) := by
    rcases Int.lt_trichotomy a b with h | h | h
    · exact ⟨true, false, false, by simp; omega, by simp; omega, by simp; omega, by simp; omega, by simp; omega, by simp; omega, by simp⟩
    · exact ⟨false, true, false, by simp; omega, by simp; omega, by simp; omega, by simp; omega, by simp; omega, by simp; omega, by simp⟩
    · exact ⟨false, false, true, by simp; omega, by simp; omega, by simp; omega, by simp; omega, by simp; omega, by simp; omega, by simp⟩
  obtain ⟨x, y, z, d1, d2, d3, d4, d5, d6, h⟩ := h0
  clear w0 w1
  rcases h with ⟨rfl, rfl, rfl⟩ | ⟨rfl, rfl, rfl⟩ | ⟨rfl, rfl, rfl⟩
  all_goals
    go_enter Try.func5, Try.ntmps5
    go_wp2_with (go_at_call 13; (with_reducible refine (awake_true _).mono ?_); rintro e w1 ⟨rfl, hb1⟩)
    refine wp_loop_rounds 7 ?_
    rw [rounds_succ]
    go_wp2_with (go_at_call 15; (with_reducible refine (two_11 _ _ _).mono ?_); rintro e w11 ⟨rfl, hb11⟩; obtain ⟨hc11, hf11⟩ := bcell hb11; have hz11 : w1.heap.size < w11.heap.size := by have := hb11.size; simp at this; omega)
    rw [rounds_succ]
    go_wp2_with (go_at_call 15; (with_reducible refine (two_12 _ _ _).mono ?_); rintro e w12 ⟨rfl, hb12⟩; obtain ⟨hc12, hf12⟩ := bcell hb12; have hz12 : w1.heap.size < w12.heap.size := by have := hb12.size; simp at this; omega)
    rw [rounds_succ]
    go_wp2_with (go_at_call 15; (with_reducible refine (two_13 _ _ _).mono ?_); rintro e w13 ⟨rfl, hb13⟩; obtain ⟨hc13, hf13⟩ := bcell hb13; have hz13 : w1.heap.size < w13.heap.size := by have := hb13.size; simp at this; omega)
    rw [rounds_succ]
    go_wp2_with (go_at_call 15; (with_reducible refine (two_14 _ _ _).mono ?_); rintro e w14 ⟨rfl, hb14⟩; obtain ⟨hc14, hf14⟩ := bcell hb14; have hz14 : w1.heap.size < w14.heap.size := by have := hb14.size; simp at this; omega)
    rw [rounds_succ]
    go_wp2_with (go_at_call 15; (with_reducible refine (two_15 _ _ _).mono ?_); rintro e w15 ⟨rfl, hb15⟩; obtain ⟨hc15, hf15⟩ := bcell hb15; have hz15 : w1.heap.size < w15.heap.size := by have := hb15.size; simp at this; omega)
    rw [rounds_succ]
    go_wp2_with (go_at_call 15; (with_reducible refine (two_16 _ _ _).mono ?_); rintro e w16 ⟨rfl, hb16⟩; obtain ⟨hc16, hf16⟩ := bcell hb16; have hz16 : w1.heap.size < w16.heap.size := by have := hb16.size; simp at this; omega)
    rw [rounds_succ]
    go_wp2_with (go_at_call 15; (with_reducible refine (two_11 _ _ _).mono ?_); rintro e w17 ⟨rfl, hb17⟩; obtain ⟨hc17, hf17⟩ := bcell hb17; have hz17 : w1.heap.size < w17.heap.size := by have := hb17.size; simp at this; omega)
    go_ret
    refine ⟨rfl, ?_⟩
    have hs1 : w.heap.size ≤ w1.heap.size := hb1.size
    refine Below.trans ?_ (hb17.mono (by simp; omega))
    refine Below.setCell (Below.trans ?_ (hb16.mono (by simp; omega))) (by simp; omega) _
    refine Below.setCell (Below.trans ?_ (hb15.mono (by simp; omega))) (by simp; omega) _
    refine Below.setCell (Below.trans ?_ (hb14.mono (by simp; omega))) (by simp; omega) _
    refine Below.setCell (Below.trans ?_ (hb13.mono (by simp; omega))) (by simp; omega) _
    refine Below.setCell (Below.trans ?_ (hb12.mono (by simp; omega))) (by simp; omega) _
    refine Below.setCell (Below.trans ?_ (hb11.mono (by simp; omega))) (by simp; omega) _
    exact hb1.alloc hs1 _
end Go.Proofs.Ytlnpfpaacgojpaa
