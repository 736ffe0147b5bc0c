/-
  Layer 2's law: ScanWords.
-/
import Derived.Test.YteapohlamngkpaaDoorLaD
namespace Go.Proofs.YteapohlamngkpaaDoor
open Go.Pv
attribute [local irreducible] Go.Pv.CallP Go.Pv.gsplit Go.Pv.ToLe Go.Pv.LoopV
set_option linter.unusedVariables false
set_option linter.unusedSimpArgs false
set_option maxRecDepth 100000
set_option maxHeartbeats 4000000

theorem okName_nameB {w : List UInt8} (h : okName w = true) : nameB w = true ∧ wordB w = false := by
  cases w with
  | nil => cases h
  | cons b t => simp only [okName, Bool.and_eq_true, Bool.not_eq_true'] at h; exact ⟨h.2, h.1.2⟩
theorem okWord_wordB {w : List UInt8} (h : okWord w = true) : wordB w = true := by
  cases w with
  | nil => cases h
  | cons b t => simp only [okWord, Bool.and_eq_true] at h; exact h.2

theorem wordI_kind (n c : Int) : ((wordI n c).2 = 1 → nameB (wordI n c).1 = true) ∧ ((wordI n c).2 = 2 → wordB (wordI n c).1 = true) := by
  have h1 := pickI_ge n (n := 44) (by decide)
  unfold wordI
  split
  · rename_i h
    have hm : kwS.getD (pickI n 44).toNat [] ∈ kwS := by rw [List.getD_eq_getElem?_getD, List.getElem?_eq_getElem h]; exact List.getElem_mem _
    exact ⟨(fun h => by cases h), fun _ => okWord_wordB (List.all_eq_true.1 kwS_word _ hm)⟩
  split
  · exact ⟨(fun h => by cases h), (fun h => by cases h)⟩
  split
  · exact ⟨(fun h => by cases h), (fun h => by cases h)⟩
  split
  · exact ⟨(fun h => by cases h), (fun h => by cases h)⟩
  · exact ⟨fun _ => (okName_nameB (varL_name c)).1, (fun h => by cases h)⟩

theorem words_loop2 {l : List (Int × Int)} {e : Tok} {L : List Tok} (hL : L = toksOf 1 l ++ [e]) {q0 q1 q2 : Option Nat} {H : Nat → Option AO} {T : Nat → Option Nat} {K : Kt} (hl : l.length ≤ 30) :
    ∀ (d i n m : Nat), i + d = l.length → Wf2 H T n m →
      (∀ fr s', Ext ⟨H, T, n, m⟩ s' → K (.exit 2) ⟨fr, s'⟩) →
      LoopV [5, 6, 10, 13] (pw cx lb_counterprooflaw02_ScanWords_0) K [.lst 1 ((kindsOf l).map intP) q1, .lst 1 ((textsOf l).map strP) q2, .lst 4 (L.map tokP) q0, .int .i64 i] ⟨H, T, n, m⟩ := by
  intro d
  induction d with
  | zero =>
    intro i n m hi hw hK
    have hk : (kindsOf l).length = l.length := by simp [kindsOf]
    refine LoopV.round ?_
    repeat' first
      | simp (maxSteps := 3000000) (disch := omega) only [go_sem, ↓reduceIte, Nat.reduceEqDiff, Nat.reduceAdd, Nat.reduceLeDiff, Nat.le_refl, Int.reduceEq, Int.reduceLE, Int.reduceLT, Int.reduceNe, Int.reduceSub, Int.reduceAdd, Int.reduceMul, Int.reduceNeg, Int.reduceToNat, Nat.reduceMul, Nat.mul_one, ne_eq, not_true_eq_false, not_false_eq_true, w64, wu8, wu64, wi32, dec_t, dec_f, hk]
      | (refine And.intro (by omega) ?_)
      | (refine gsplit_intro (fun h => ?_) (fun h => ?_) <;> (try simp only [decide_eq_true_eq, decide_eq_false_iff_not] at h))
    exact hK _ _ (Ext.refl _)
  | succ d ih =>
    intro i n m hi hw hK
    obtain ⟨x, hx⟩ : ∃ b, l[i]? = some b := ⟨l[i]'(by omega), by simp⟩
    have hk : (kindsOf l).length = l.length := by simp [kindsOf]
    have ht : (textsOf l).length = l.length := by simp [textsOf]
    have hs : (toksOf 1 l).length = l.length := by simp [toksOf]
    have e1 : elem ((kindsOf l).map intP) (i : Int) = intP (wordI x.1 x.2).2 := elem_at (by rw [Int.toNat_natCast, kindsOf, List.getElem?_map, hx]; rfl)
    have e2 : elem ((textsOf l).map strP) (i : Int) = strP (wordI x.1 x.2).1 := elem_at (by rw [Int.toNat_natCast, textsOf, List.getElem?_map, hx]; rfl)
    have e3 : elem (L.map tokP) (i : Int) = tokP ⟨(wordI x.1 x.2).2, (wordI x.1 x.2).1, wordV x.1 x.2, 1⟩ :=
      elem_at (by rw [hL, Int.toNat_natCast, List.getElem?_append_left (by omega), toksOf, List.getElem?_map, hx]; rfl)
    have hLl : L.length = l.length + 1 := by rw [hL]; simp [hs]
    have hwl := wordI_len x.1 x.2
    obtain ⟨k1, k2⟩ := wordI_kind x.1 x.2
    have hw1 : IntKind.i64.wrap ((i : Int) + 1) = ((i + 1 : Nat) : Int) := by rw [w64 (by omega) (by omega)]; rfl
    have fin : ∀ n2 m2, n ≤ n2 → m ≤ m2 → LoopI (LoopV [5, 6, 10, 13] (pw cx lb_counterprooflaw02_ScanWords_0) K) [.lst 1 ((kindsOf l).map intP) q1, .lst 1 ((textsOf l).map strP) q2, .lst 4 (L.map tokP) q0, .int .i64 ((i + 1 : Nat) : Int)] ⟨H, T, n2, m2⟩ := fun n2 m2 h1 h2 =>
      LoopI.same (ih (i + 1) n2 m2 (by omega) (hw.mono h1 h2) fun fr s' hx => hK fr s' (hx.up h1 h2))
    refine LoopV.round ?_
    by_cases c1 : (wordI x.1 x.2).2 = 1
    · have k1' := k1 c1
      repeat' first
        | simp (maxSteps := 3000000) (disch := omega) only [go_sem, ↓reduceIte, Nat.reduceEqDiff, Nat.reduceAdd, Nat.reduceLeDiff, Nat.le_refl, Int.reduceEq, Int.reduceLE, Int.reduceLT, Int.reduceNe, Int.reduceSub, Int.reduceAdd, Int.reduceMul, Int.reduceNeg, Int.reduceToNat, Nat.reduceMul, Nat.mul_one, ne_eq, not_true_eq_false, not_false_eq_true, w64, wu8, wu64, wi32, dec_t, dec_f, hk, ht, hLl, e1, e2, e3, intP, strP, tokP, hw1, c1, k1']
        | (refine CallP.into (name_ok (by omega)) (fun n2 m2 hn2 hm2 => ?_); try dsimp only at hn2 hm2)
        | (refine And.intro (by omega) ?_)
        | (refine gsplit_intro (fun h => ?_) (fun h => ?_) <;> (try simp only [decide_eq_true_eq, decide_eq_false_iff_not] at h))
      exact fin _ _ (by omega) (by omega)
    have c1' : ((wordI x.1 x.2).2 = 1) = False := eq_false c1
    by_cases c2 : (wordI x.1 x.2).2 = 2
    · have k2' := k2 c2
      repeat' first
        | simp (maxSteps := 3000000) (disch := omega) only [go_sem, ↓reduceIte, Nat.reduceEqDiff, Nat.reduceAdd, Nat.reduceLeDiff, Nat.le_refl, Int.reduceEq, Int.reduceLE, Int.reduceLT, Int.reduceNe, Int.reduceSub, Int.reduceAdd, Int.reduceMul, Int.reduceNeg, Int.reduceToNat, Nat.reduceMul, Nat.mul_one, ne_eq, not_true_eq_false, not_false_eq_true, w64, wu8, wu64, wi32, dec_t, dec_f, hk, ht, hLl, e1, e2, e3, intP, strP, tokP, hw1, c2, k2']
        | (refine CallP.to (word_ok _ _) ?_)
        | (refine And.intro (by omega) ?_)
        | (refine gsplit_intro (fun h => ?_) (fun h => ?_) <;> (try simp only [decide_eq_true_eq, decide_eq_false_iff_not] at h))
      exact fin _ _ (by omega) (by omega)
    have c2' : ((wordI x.1 x.2).2 = 2) = False := eq_false c2
    repeat' first
      | simp (maxSteps := 3000000) (disch := omega) only [go_sem, ↓reduceIte, Nat.reduceEqDiff, Nat.reduceAdd, Nat.reduceLeDiff, Nat.le_refl, Int.reduceEq, Int.reduceLE, Int.reduceLT, Int.reduceNe, Int.reduceSub, Int.reduceAdd, Int.reduceMul, Int.reduceNeg, Int.reduceToNat, Nat.reduceMul, Nat.mul_one, ne_eq, not_true_eq_false, not_false_eq_true, w64, wu8, wu64, wi32, dec_t, dec_f, hk, ht, hLl, e1, e2, e3, intP, strP, tokP, hw1, c1', c2']
      | (refine And.intro (by omega) ?_)
      | (refine gsplit_intro (fun h => ?_) (fun h => ?_) <;> (try simp only [decide_eq_true_eq, decide_eq_false_iff_not] at h))
    exact fin _ _ (by omega) (by omega)
end Go.Proofs.YteapohlamngkpaaDoor
