import Derived.Test.YtlnpfpaacgojpaaArith
namespace Go.Proofs.Ytlnpfpaacgojpaa
open Go.RowKit

theorem Below.tr {w a b : World} (h : Below w.heap.size w a) (k : Below a.heap.size a b) : Below w.heap.size w b := h.trans (k.mono h.size)

theorem bnd64 {a : Int} (h : (Lit.int .i64 a).wf = true) : -9223372036854775808 ≤ a ∧ a ≤ 9223372036854775807 := by
  simp [Lit.wf, IntKind.min, IntKind.max, IntKind.signed, IntKind.bits] at h
  omega

theorem less_1_m1 : lessN 1 (-1) = true := by decide
set_option maxHeartbeats 800000 in
theorem awake_true (w : World) :
    Calls Try.prog 13 #[] w fun e w' => e = .returned (.bool true) ∧ Below w.heap.size w w' := by
  have k5 : wrap64 (-5) = -5 := by unfold wrap64; omega
  have k6 := less_1_m1
  go_enter Try.func13, Try.ntmps13
  go_wp2_with (first 
    | (go_at_call 15; (with_reducible refine (two_5 _ _ (by decide) _).mono ?_); rintro e w1 ⟨rfl, hb1⟩) 
    | (go_at_call 15; (with_reducible refine (two_4_0 _ _).mono ?_); rintro e w2 ⟨rfl, hb2⟩) 
    | (go_at_call 25; (with_reducible refine (sign_9 _).mono ?_); rintro e w3 ⟨rfl, hb3⟩) 
    | (go_at_call 23; (with_reducible refine (one_19 _ _).mono ?_); rintro e w4 ⟨rfl, hb4⟩) 
    | (go_at_call 17; (with_reducible refine (div_0 _ _).mono ?_); rintro e w5 ⟨rfl, rfl⟩) 
    | (go_at_call 27; (with_reducible refine (level_3 _).mono ?_); rintro e w6 ⟨rfl, hb5⟩) 
    | (go_at_call 21; (with_reducible refine (less_any _ _ _).mono ?_); rintro e w7 ⟨rfl, rfl⟩) 
    )
  go_ret
  exact ⟨rfl, Below.tr (Below.tr (Below.tr (Below.tr hb1 hb2) hb3) hb4) hb5⟩

/-- Which of n things a raw number speaks of. -/
def pickN (c n : Int) : Int := (if c < 0 then -(c + 1) else c) % n
theorem pickN_lt (c : Int) {n : Int} (h : 0 < n) : 0 ≤ pickN c n ∧ pickN c n < n := by
  unfold pickN; exact ⟨Int.emod_nonneg _ (by omega), Int.emod_lt_of_pos _ h⟩
set_option maxHeartbeats 800000 in
theorem pick_any (c n : Int) (hc : -9223372036854775808 ≤ c ∧ c ≤ 9223372036854775807) (hn : 0 < n) (w : World) :
    Calls Try.prog 14 #[.int .i64 c, .int .i64 n] w fun e w' => e = .returned (.int .i64 (pickN c n)) ∧ w = w' := by
  obtain ⟨h1, h2⟩ := hc
  by_cases h : c < 0
  · have e : pickN c n = -((c + 1).tmod n) := by unfold pickN; rw [if_pos h, ← Int.neg_tmod, Int.tmod_eq_emod_of_nonneg (by omega)]
    rw [e]
    clear e
    go_enter Try.func14, Try.ntmps14
    go_wp2
    go_ret
    exact ⟨rfl, rfl⟩
  · have e : pickN c n = c % n := by unfold pickN; rw [if_neg h]
    rw [e]
    clear e
    go_enter Try.func14, Try.ntmps14
    go_wp2
    go_ret
    exact ⟨rfl, rfl⟩
theorem bcell {W w1 : World} (hb : Below W.heap.size W w1) : (∀ b o, b < W.heap.size → w1.cell? ⟨b, o, none⟩ = W.cell? ⟨b, o, none⟩) ∧ (∀ b o, b < W.heap.size → w1.frozen? ⟨b, o, none⟩ = W.frozen? ⟨b, o, none⟩) :=
  ⟨fun b o h => hb.cell (p := ⟨b, o, none⟩) h, fun b o h => hb.frozen (p := ⟨b, o, none⟩) h⟩
theorem ret_b {p : Bool} (h : p = true) : Ending.returned (.bool p) = .returned (.bool true) := by rw [h]
@[go_sem] theorem truthN_true : truthN true = 1 := rfl
@[go_sem] theorem truthN_false : truthN false = 0 := rfl
end Go.Proofs.Ytlnpfpaacgojpaa
