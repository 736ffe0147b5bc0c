/-
  Layer 2's law: blanks, line feeds, the same tokens.
-/
import Derived.Test.YteapohlamngkpaaDoorLaA
import Derived.Test.YteapohlamngkpaaDoorScA
namespace Go.Proofs.YteapohlamngkpaaDoor
open Go.Pv
attribute [local irreducible] Go.Pv.CallP Go.Pv.gsplit Go.Pv.ToLe Go.Pv.LoopV
set_option linter.unusedVariables false
set_option linter.unusedSimpArgs false
set_option maxRecDepth 100000
set_option maxHeartbeats 4000000

def blankS : List (List UInt8) := [[32], [32, 32], [10], [32, 9, 13, 32], [10, 10], [32, 47, 47, 32, 120, 32, 61, 32, 49, 59, 10], [32, 47, 47, 10], [32, 47, 47, 195, 169, 32, 39, 97, 10, 32]]
def blankL (l : List Int) (i : Nat) : List UInt8 := if l.length ≤ i then [32] else blankS.getD (pickI (l.getD i 0) 8).toNat []

theorem blank_ok {l : List Int} {p : Option Nat} {i : Nat} {s : Hs} (hl : ∀ x ∈ l, I64 x) (hi : i ≤ 1000000) (hll : l.length ≤ 9223372036854775807) : CallP cx 12 [.lst 1 (l.map intP) p, .int .i64 i] s (To (.ret (.str (blankL l i))) s s.H s.T) := by
  unfold blankL
  refine call_to cx_ok chk_counterprooflaw02_blank rfl fun wd => ?_
  unfold callW fp_counterprooflaw02_blank
  by_cases c : l.length ≤ i
  · rw [if_pos c]
    repeat' first
      | simp (maxSteps := 3000000) (disch := omega) only [go_sem, ↓reduceIte, Nat.reduceEqDiff, Nat.reduceAdd, Nat.reduceLeDiff, Nat.le_refl, Int.reduceEq, Int.reduceLE, Int.reduceLT, Int.reduceNe, Int.reduceSub, Int.reduceAdd, Int.reduceMul, Int.reduceNeg, Int.reduceToNat, Nat.reduceMul, Nat.mul_one, ne_eq, not_true_eq_false, not_false_eq_true, w64, wu8, wu64, wi32, dec_t, dec_f]
      | (refine And.intro (by omega) ?_)
      | (refine gsplit_intro (fun h => ?_) (fun h => ?_) <;> (try simp only [decide_eq_true_eq, decide_eq_false_iff_not] at h))
    refine ToLe.mk (OutLe.refl _) ?_ ?_ ?_ ?_
    · repeat' (first | exact Hle.refl _ | refine Hle.new _ (by first | exact wd.h0 _ | exact wd.1 _ (by simp only []; omega) | exact wd.1 _ (by omega)) ?_)
    · repeat' (first | exact Hle.refl _ | refine Hle.new _ (by first | exact wd.t0 _ | exact wd.2 _ (by simp only []; omega) | exact wd.2 _ (by omega)) ?_)
    · first | omega | (simp only []; omega)
    · first | omega | (simp only []; omega)
  · rw [if_neg c]
    have hI : I64 (l.getD i 0) := by
      have : l.getD i 0 ∈ l := by
        rw [List.getD_eq_getElem?_getD, List.getElem?_eq_getElem (by omega)]
        simp
      exact hl _ this
    have he := elem_ints l i (by omega)
    have h1 := pickI_ge (l.getD i 0) (n := 8) (by decide)
    have h2 := pickI_lt (l.getD i 0) (n := 8) (by decide)
    obtain ⟨k, hk⟩ : ∃ k : Nat, pickI (l.getD i 0) 8 = k := ⟨(pickI (l.getD i 0) 8).toNat, by omega⟩
    have he2 := elem_strs blankS k (by show k < 8; omega)
    rw [hk, Int.toNat_natCast]
    generalize hw : blankS.getD k [] = w at he2 ⊢
    simp only [blankS, List.map_cons, List.map_nil] at he2
    have he' : elem (l.map intP) (i : Int) = [.int .i64 (l.getD i 0)] := he
    repeat' first
      | simp (maxSteps := 3000000) (disch := omega) only [go_sem, ↓reduceIte, Nat.reduceEqDiff, Nat.reduceAdd, Nat.reduceLeDiff, Nat.le_refl, Int.reduceEq, Int.reduceLE, Int.reduceLT, Int.reduceNe, Int.reduceSub, Int.reduceAdd, Int.reduceMul, Int.reduceNeg, Int.reduceToNat, Nat.reduceMul, Nat.mul_one, ne_eq, not_true_eq_false, not_false_eq_true, w64, wu8, wu64, wi32, dec_t, dec_f, he', he2, hk]
      | (refine CallP.to (pick2_ok hI (by decide) (by decide)) ?_)
      | (refine And.intro (by omega) ?_)
      | (refine gsplit_intro (fun h => ?_) (fun h => ?_) <;> (try simp only [decide_eq_true_eq, decide_eq_false_iff_not] at h))
    refine ToLe.mk (OutLe.refl _) ?_ ?_ ?_ ?_
    · repeat' (first | exact Hle.refl _ | refine Hle.new _ (by first | exact wd.h0 _ | exact wd.1 _ (by simp only []; omega) | exact wd.1 _ (by omega)) ?_)
    · repeat' (first | exact Hle.refl _ | refine Hle.new _ (by first | exact wd.t0 _ | exact wd.2 _ (by simp only []; omega) | exact wd.2 _ (by omega)) ?_)
    · first | omega | (simp only []; omega)
    · first | omega | (simp only []; omega)

def feedsN (t : List UInt8) : Nat := (t.filter fun b => b == 10).length

theorem feeds_loop {t : List UInt8} {s : Hs} {K : Kt} (hl : t.length ≤ 1000000) (hK : ∀ fr, fr 3 = some (.int .i64 (feedsN t)) → K (.exit 0) ⟨fr, s⟩) :
    ∀ (d i : Nat), i + d = t.length → LoopV [0, 3, 4] (pw cx lb_counterprooflaw02_feeds_0) K [.str t, .int .i64 (feedsN (t.take i)), .int .i64 i] s := by
  intro d
  induction d with
  | zero =>
    intro i hi
    have : i = t.length := by omega
    subst this
    refine LoopV.round ?_
    repeat' first
      | simp (maxSteps := 3000000) (disch := omega) only [go_sem, ↓reduceIte, Nat.reduceEqDiff, Nat.reduceAdd, Nat.reduceLeDiff, Nat.le_refl, Int.reduceEq, Int.reduceLE, Int.reduceLT, Int.reduceNe, Int.reduceSub, Int.reduceAdd, Int.reduceMul, Int.reduceNeg, Int.reduceToNat, Nat.reduceMul, Nat.mul_one, ne_eq, not_true_eq_false, not_false_eq_true, w64, wu8, wu64, wi32, dec_t, dec_f, List.take_length, Int.lt_irrefl, decide_false]
      | (refine And.intro (by omega) ?_)
      | (refine gsplit_intro (fun h => ?_) (fun h => ?_) <;> (try simp only [decide_eq_true_eq, decide_eq_false_iff_not] at h))
    exact hK _ rfl
  | succ d ih =>
    intro i hi
    obtain ⟨b, hb⟩ : ∃ b, t[i]? = some b := ⟨t[i], by simp⟩
    have hbe : byteAt t (i : Int) = (b.toNat : Int) := by simp [byteAt, List.getD, hb]
    have hle : feedsN (t.take i) ≤ i := by
      have := (List.filter_sublist (p := fun b : UInt8 => b == 10) (l := t.take i)).length_le
      rw [List.length_take] at this
      unfold feedsN; omega
    have ht : feedsN (t.take (i + 1)) = feedsN (t.take i) + if b = 10 then 1 else 0 := by
      unfold feedsN
      rw [List.take_add_one, hb]
      by_cases hb2 : b = 10 <;> simp [List.filter_append, hb2]
    have hb10 : (b = 10) ↔ ((b.toNat : Int) = 10) := by
      constructor
      · rintro rfl; rfl
      · intro h; exact UInt8.toNat_inj.1 (by show b.toNat = 10; omega)
    refine LoopV.round ?_
    repeat' first
      | simp (maxSteps := 3000000) (disch := omega) only [go_sem, ↓reduceIte, Nat.reduceEqDiff, Nat.reduceAdd, Nat.reduceLeDiff, Nat.le_refl, Int.reduceEq, Int.reduceLE, Int.reduceLT, Int.reduceNe, Int.reduceSub, Int.reduceAdd, Int.reduceMul, Int.reduceNeg, Int.reduceToNat, Nat.reduceMul, Nat.mul_one, ne_eq, not_true_eq_false, not_false_eq_true, w64, wu8, wu64, wi32, dec_t, dec_f, hbe]
      | (refine And.intro (by omega) ?_)
      | (refine gsplit_intro (fun h => ?_) (fun h => ?_) <;> (try simp only [decide_eq_true_eq, decide_eq_false_iff_not] at h))
    · have := ih (i + 1) (by omega)
      rw [ht, if_pos (hb10.2 h)] at this
      exact LoopI.same this
    · have := ih (i + 1) (by omega)
      rw [ht, if_neg (fun e => h (hb10.1 e))] at this
      exact LoopI.same this

theorem feeds_ok {t : List UInt8} {s : Hs} (hl : t.length ≤ 1000000) : CallP cx 13 [.str t] s (Is (.ret (.int .i64 (feedsN t))) s) := by
  refine call_ok cx_ok chk_counterprooflaw02_feeds rfl ?_
  unfold callW fp_counterprooflaw02_feeds
  repeat' first
    | simp (maxSteps := 3000000) (disch := omega) only [go_sem, ↓reduceIte, Nat.reduceEqDiff, Nat.reduceAdd, Nat.reduceLeDiff, Nat.le_refl, Int.reduceEq, Int.reduceLE, Int.reduceLT, Int.reduceNe, Int.reduceSub, Int.reduceAdd, Int.reduceMul, Int.reduceNeg, Int.reduceToNat, Nat.reduceMul, Nat.mul_one, ne_eq, not_true_eq_false, not_false_eq_true, w64, wu8, wu64, wi32, dec_t, dec_f]
    | (refine feeds_loop hl (fun fr h3 => ?_) t.length 0 (Nat.zero_add _))
    | (refine And.intro (by omega) ?_)
    | (refine gsplit_intro (fun h => ?_) (fun h => ?_) <;> (try simp only [decide_eq_true_eq, decide_eq_false_iff_not] at h))
  repeat' first
    | simp (maxSteps := 3000000) (disch := omega) only [go_sem, ↓reduceIte, Nat.reduceEqDiff, Nat.reduceAdd, Nat.reduceLeDiff, Nat.le_refl, Int.reduceEq, Int.reduceLE, Int.reduceLT, Int.reduceNe, Int.reduceSub, Int.reduceAdd, Int.reduceMul, Int.reduceNeg, Int.reduceToNat, Nat.reduceMul, Nat.mul_one, ne_eq, not_true_eq_false, not_false_eq_true, w64, wu8, wu64, wi32, dec_t, dec_f, h3]
    | (refine And.intro (by omega) ?_)
    | (refine gsplit_intro (fun h => ?_) (fun h => ?_) <;> (try simp only [decide_eq_true_eq, decide_eq_false_iff_not] at h))
  exact Is.mk _ _

def eqT (lines : Bool) (x y : Tok) : Bool := decide (x.kind = y.kind ∧ x.text = y.text ∧ x.n = y.n ∧ (lines = true → x.line = y.line))
def sameB (lines : Bool) (a b : List Tok) : Bool := decide (a.length = b.length) && (a.zip b).all fun p => eqT lines p.1 p.2

theorem same_loop {a b : List Tok} {p q : Option Nat} {lines : Bool} {H : Nat → Option AO} {T : Nat → Option Nat} {K : Kt} (hl : a.length = b.length) (hla : a.length ≤ 1000000) :
    ∀ (d i n m : Nat), i + d = a.length → Wf2 H T n m →
      (∀ fr s', Ext ⟨H, T, n, m⟩ s' → (((a.drop i).zip (b.drop i)).all fun p => eqT lines p.1 p.2) = true → K (.exit 0) ⟨fr, s'⟩) →
      (∀ fr s', Ext ⟨H, T, n, m⟩ s' → (((a.drop i).zip (b.drop i)).all fun p => eqT lines p.1 p.2) = false → fr 6 = some (.bool false) → K .ret ⟨fr, s'⟩) →
      LoopV [0, 1, 2, 7] (pw cx lb_counterprooflaw02_same_0) K [.lst 4 (a.map tokP) p, .lst 4 (b.map tokP) q, .bool lines, .int .i64 i] ⟨H, T, n, m⟩ := by
  intro d
  induction d with
  | zero =>
    intro i n m hi hw hK hB
    refine LoopV.round ?_
    repeat' first
      | simp (maxSteps := 3000000) (disch := omega) only [go_sem, ↓reduceIte, Nat.reduceEqDiff, Nat.reduceAdd, Nat.reduceLeDiff, Nat.le_refl, Int.reduceEq, Int.reduceLE, Int.reduceLT, Int.reduceNe, Int.reduceSub, Int.reduceAdd, Int.reduceMul, Int.reduceNeg, Int.reduceToNat, Nat.reduceMul, Nat.mul_one, ne_eq, not_true_eq_false, not_false_eq_true, w64, wu8, wu64, wi32, dec_t, dec_f]
      | (refine And.intro (by omega) ?_)
      | (refine gsplit_intro (fun h => ?_) (fun h => ?_) <;> (try simp only [decide_eq_true_eq, decide_eq_false_iff_not] at h))
    refine hK _ _ (Ext.refl _) ?_
    rw [List.drop_eq_nil_of_le (by omega : a.length ≤ i)]
    rfl
  | succ d ih =>
    intro i n m hi hw hK hB
    obtain ⟨x, hx⟩ : ∃ b, a[i]? = some b := ⟨a[i], by simp⟩
    obtain ⟨y, hy⟩ : ∃ c, b[i]? = some c := ⟨b[i]'(by omega), by simp⟩
    have ex : elem (a.map tokP) (i : Int) = tokP x := elem_at (by rw [Int.toNat_natCast]; exact hx)
    have ey : elem (b.map tokP) (i : Int) = tokP y := elem_at (by rw [Int.toNat_natCast]; exact hy)
    have hdx : a.drop i = x :: a.drop (i + 1) := by rw [List.drop_eq_getElem_cons (by omega)]; congr 1; exact Option.some.inj ((List.getElem?_eq_getElem (by omega)).symm.trans hx)
    have hdy : b.drop i = y :: b.drop (i + 1) := by rw [List.drop_eq_getElem_cons (by omega)]; congr 1; exact Option.some.inj ((List.getElem?_eq_getElem (by omega)).symm.trans hy)
    rw [hdx, hdy] at hK hB
    simp only [List.zip_cons_cons, List.all_cons] at hK hB
    refine LoopV.round ?_
    repeat' first
      | simp (maxSteps := 3000000) (disch := omega) only [go_sem, ↓reduceIte, Nat.reduceEqDiff, Nat.reduceAdd, Nat.reduceLeDiff, Nat.le_refl, Int.reduceEq, Int.reduceLE, Int.reduceLT, Int.reduceNe, Int.reduceSub, Int.reduceAdd, Int.reduceMul, Int.reduceNeg, Int.reduceToNat, Nat.reduceMul, Nat.mul_one, ne_eq, not_true_eq_false, not_false_eq_true, w64, wu8, wu64, wi32, dec_t, dec_f, ex, ey, tokP]
      | (refine And.intro (by omega) ?_)
      | (refine gsplit_intro (fun h => ?_) (fun h => ?_) <;> (try simp only [decide_eq_true_eq, decide_eq_false_iff_not] at h))
    · have he : eqT lines x y = false := by
        simp only [eqT, decide_eq_false_iff_not]; intro hc; simp_all
      rw [he] at hB
      refine hB _ _ ?_ rfl rfl
      refine ⟨?_, ?_, ?_, ?_⟩
      · first
          | (repeat' (first | exact Hle.refl _ | refine Hle.new _ (by first | exact hw.1 _ (Nat.le_refl _) | exact hw.1 _ (by simp only []; omega) | exact hw.1 _ (by omega)) ?_)); done
          | (intro j o h; simp only [hset_get] at h ⊢; (repeat' split at h) <;> (repeat' split) <;> first | exact h | (exfalso; omega) | (exfalso; have hj := hw.1 j (by first | omega | (simp only []; omega)); rw [hj] at h; cases h) | simp_all)
      · first
          | (repeat' (first | exact Hle.refl _ | refine Hle.new _ (by first | exact hw.2 _ (Nat.le_refl _) | exact hw.2 _ (by simp only []; omega) | exact hw.2 _ (by omega)) ?_)); done
          | (intro j o h; simp only [hset_get] at h ⊢; (repeat' split at h) <;> (repeat' split) <;> first | exact h | (exfalso; omega) | (exfalso; have hj := hw.2 j (by first | omega | (simp only []; omega)); rw [hj] at h; cases h) | simp_all)
      · first | omega | (simp only []; omega)
      · first | omega | (simp only []; omega)
    · have he : eqT lines x y = true := by simp only [eqT]; simp_all
      rw [he] at hB hK
      simp only [Bool.true_and] at hB hK
      refine LoopI.ext (s0 := ⟨H, T, n, m⟩) ?_ (ih (i + 1) _ _ (by omega) (hw.mono (by simp only []; omega) (by simp only []; omega)) (fun fr s' hx hq => hK _ _ (hx.up (by simp only []; omega) (by simp only []; omega)) hq) (fun fr s' hx hq h6 => hB _ _ (hx.up (by simp only []; omega) (by simp only []; omega)) hq h6))
      refine ⟨?_, ?_, ?_, ?_⟩
      · first
          | (repeat' (first | exact Hle.refl _ | refine Hle.new _ (by first | exact hw.1 _ (Nat.le_refl _) | exact hw.1 _ (by simp only []; omega) | exact hw.1 _ (by omega)) ?_)); done
          | (intro j o h; simp only [hset_get] at h ⊢; (repeat' split at h) <;> (repeat' split) <;> first | exact h | (exfalso; omega) | (exfalso; have hj := hw.1 j (by first | omega | (simp only []; omega)); rw [hj] at h; cases h) | simp_all)
      · first
          | (repeat' (first | exact Hle.refl _ | refine Hle.new _ (by first | exact hw.2 _ (Nat.le_refl _) | exact hw.2 _ (by simp only []; omega) | exact hw.2 _ (by omega)) ?_)); done
          | (intro j o h; simp only [hset_get] at h ⊢; (repeat' split at h) <;> (repeat' split) <;> first | exact h | (exfalso; omega) | (exfalso; have hj := hw.2 j (by first | omega | (simp only []; omega)); rw [hj] at h; cases h) | simp_all)
      · first | omega | (simp only []; omega)
      · first | omega | (simp only []; omega)
    · have he : eqT lines x y = false := by
        simp only [eqT, decide_eq_false_iff_not]; intro hc; simp_all
      rw [he] at hB
      refine hB _ _ ?_ rfl rfl
      refine ⟨?_, ?_, ?_, ?_⟩
      · first
          | (repeat' (first | exact Hle.refl _ | refine Hle.new _ (by first | exact hw.1 _ (Nat.le_refl _) | exact hw.1 _ (by simp only []; omega) | exact hw.1 _ (by omega)) ?_)); done
          | (intro j o h; simp only [hset_get] at h ⊢; (repeat' split at h) <;> (repeat' split) <;> first | exact h | (exfalso; omega) | (exfalso; have hj := hw.1 j (by first | omega | (simp only []; omega)); rw [hj] at h; cases h) | simp_all)
      · first
          | (repeat' (first | exact Hle.refl _ | refine Hle.new _ (by first | exact hw.2 _ (Nat.le_refl _) | exact hw.2 _ (by simp only []; omega) | exact hw.2 _ (by omega)) ?_)); done
          | (intro j o h; simp only [hset_get] at h ⊢; (repeat' split at h) <;> (repeat' split) <;> first | exact h | (exfalso; omega) | (exfalso; have hj := hw.2 j (by first | omega | (simp only []; omega)); rw [hj] at h; cases h) | simp_all)
      · first | omega | (simp only []; omega)
      · first | omega | (simp only []; omega)
    · have he : eqT lines x y = true := by simp only [eqT]; simp_all
      rw [he] at hB hK
      simp only [Bool.true_and] at hB hK
      refine LoopI.ext (s0 := ⟨H, T, n, m⟩) ?_ (ih (i + 1) _ _ (by omega) (hw.mono (by simp only []; omega) (by simp only []; omega)) (fun fr s' hx hq => hK _ _ (hx.up (by simp only []; omega) (by simp only []; omega)) hq) (fun fr s' hx hq h6 => hB _ _ (hx.up (by simp only []; omega) (by simp only []; omega)) hq h6))
      refine ⟨?_, ?_, ?_, ?_⟩
      · first
          | (repeat' (first | exact Hle.refl _ | refine Hle.new _ (by first | exact hw.1 _ (Nat.le_refl _) | exact hw.1 _ (by simp only []; omega) | exact hw.1 _ (by omega)) ?_)); done
          | (intro j o h; simp only [hset_get] at h ⊢; (repeat' split at h) <;> (repeat' split) <;> first | exact h | (exfalso; omega) | (exfalso; have hj := hw.1 j (by first | omega | (simp only []; omega)); rw [hj] at h; cases h) | simp_all)
      · first
          | (repeat' (first | exact Hle.refl _ | refine Hle.new _ (by first | exact hw.2 _ (Nat.le_refl _) | exact hw.2 _ (by simp only []; omega) | exact hw.2 _ (by omega)) ?_)); done
          | (intro j o h; simp only [hset_get] at h ⊢; (repeat' split at h) <;> (repeat' split) <;> first | exact h | (exfalso; omega) | (exfalso; have hj := hw.2 j (by first | omega | (simp only []; omega)); rw [hj] at h; cases h) | simp_all)
      · first | omega | (simp only []; omega)
      · first | omega | (simp only []; omega)

theorem same_ok {a b : List Tok} {p q : Option Nat} {lines : Bool} {s : Hs} (hla : a.length ≤ 1000000) (hlb : b.length ≤ 1000000) : CallP cx 14 [.lst 4 (a.map tokP) p, .lst 4 (b.map tokP) q, .bool lines] s (To (.ret (.bool (sameB lines a b))) s s.H s.T) := by
  unfold sameB
  refine call_to cx_ok chk_counterprooflaw02_same rfl fun wd => ?_
  unfold callW fp_counterprooflaw02_same
  by_cases hl : a.length = b.length
  · repeat' first
      | simp (maxSteps := 3000000) (disch := omega) only [go_sem, ↓reduceIte, Nat.reduceEqDiff, Nat.reduceAdd, Nat.reduceLeDiff, Nat.le_refl, Int.reduceEq, Int.reduceLE, Int.reduceLT, Int.reduceNe, Int.reduceSub, Int.reduceAdd, Int.reduceMul, Int.reduceNeg, Int.reduceToNat, Nat.reduceMul, Nat.mul_one, ne_eq, not_true_eq_false, not_false_eq_true, w64, wu8, wu64, wi32, dec_t, dec_f, hl]
      | (refine And.intro (by omega) ?_)
      | (refine gsplit_intro (fun h => ?_) (fun h => ?_) <;> (try simp only [decide_eq_true_eq, decide_eq_false_iff_not] at h))
    refine same_loop hl hla a.length 0 s.n s.m (Nat.zero_add _) wd.wf (fun fr s' hx hq => ?_) (fun fr s' hx hq h6 => ?_)
    · rw [List.drop_zero, List.drop_zero] at hq
      repeat' first
        | simp (maxSteps := 3000000) (disch := omega) only [go_sem, ↓reduceIte, Nat.reduceEqDiff, Nat.reduceAdd, Nat.reduceLeDiff, Nat.le_refl, Int.reduceEq, Int.reduceLE, Int.reduceLT, Int.reduceNe, Int.reduceSub, Int.reduceAdd, Int.reduceMul, Int.reduceNeg, Int.reduceToNat, Nat.reduceMul, Nat.mul_one, ne_eq, not_true_eq_false, not_false_eq_true, w64, wu8, wu64, wi32, dec_t, dec_f, hq, Bool.and_true]
        | (refine And.intro (by omega) ?_)
        | (refine gsplit_intro (fun h => ?_) (fun h => ?_) <;> (try simp only [decide_eq_true_eq, decide_eq_false_iff_not] at h))
      exact ToLe.ext (OutLe.refl _) hx
    · rw [List.drop_zero, List.drop_zero] at hq
      repeat' first
        | simp (maxSteps := 3000000) (disch := omega) only [go_sem, ↓reduceIte, Nat.reduceEqDiff, Nat.reduceAdd, Nat.reduceLeDiff, Nat.le_refl, Int.reduceEq, Int.reduceLE, Int.reduceLT, Int.reduceNe, Int.reduceSub, Int.reduceAdd, Int.reduceMul, Int.reduceNeg, Int.reduceToNat, Nat.reduceMul, Nat.mul_one, ne_eq, not_true_eq_false, not_false_eq_true, w64, wu8, wu64, wi32, dec_t, dec_f, hq, h6, Bool.and_false]
        | (refine And.intro (by omega) ?_)
        | (refine gsplit_intro (fun h => ?_) (fun h => ?_) <;> (try simp only [decide_eq_true_eq, decide_eq_false_iff_not] at h))
      exact ToLe.ext (OutLe.refl _) hx
  · repeat' first
      | simp (maxSteps := 3000000) (disch := omega) only [go_sem, ↓reduceIte, Nat.reduceEqDiff, Nat.reduceAdd, Nat.reduceLeDiff, Nat.le_refl, Int.reduceEq, Int.reduceLE, Int.reduceLT, Int.reduceNe, Int.reduceSub, Int.reduceAdd, Int.reduceMul, Int.reduceNeg, Int.reduceToNat, Nat.reduceMul, Nat.mul_one, ne_eq, not_true_eq_false, not_false_eq_true, w64, wu8, wu64, wi32, dec_t, dec_f, hl]
      | (refine And.intro (by omega) ?_)
      | (refine gsplit_intro (fun h => ?_) (fun h => ?_) <;> (try simp only [decide_eq_true_eq, decide_eq_false_iff_not] at h))
    exact ToLe.self
end Go.Proofs.YteapohlamngkpaaDoor
