/-
  Layer 2: words, names, characters.
-/
import Derived.Test.YteapohlamngkpaaDoorScB
import Derived.Lib.MapLaws
namespace Go.Proofs.YteapohlamngkpaaDoor
open Go.Pv
attribute [local irreducible] Go.Pv.CallP Go.Pv.gsplit Go.Pv.ToLe Go.Pv.LoopV
set_option linter.unusedVariables false
set_option linter.unusedSimpArgs false
set_option maxRecDepth 100000
set_option maxHeartbeats 4000000

def wordsL : List (List UInt8) := [[105, 110, 116], [105, 102], [101, 108, 115, 101], [119, 104, 105, 108, 101], [98, 114, 101, 97, 107], [99, 111, 110, 116, 105, 110, 117, 101], [114, 101, 116, 117, 114, 110], [112, 114, 105, 110, 116], [114, 101, 97, 100], [116, 114, 97, 112]]
def wordB (s : List UInt8) : Bool := decide (s ∈ wordsL)

theorem word_ok (t : List UInt8) (s : Hs) : CallP cx 11 [.str t] s (Is (.ret (.bool (wordB t))) s) := by
  refine call_ok cx_ok chk_scan_Word rfl ?_
  unfold callW fp_scan_Word
  repeat' first
    | simp (maxSteps := 3000000) only [go_sem, ↓reduceIte, Nat.reduceEqDiff, Nat.reduceAdd, Nat.reduceLeDiff, Nat.le_refl, Int.reduceEq, Int.reduceLE, Int.reduceLT, Int.reduceNe, Int.reduceSub, Int.reduceAdd, Int.reduceMul, Int.reduceNeg, Int.reduceToNat, Nat.reduceMul, Nat.mul_one, ne_eq, not_true_eq_false, not_false_eq_true, Is]
    | (refine And.intro (by omega) ?_)
    | (refine gsplit_intro (fun h => ?_) (fun h => ?_) <;> (try simp only [decide_eq_true_eq, decide_eq_false_iff_not] at h))
  all_goals simp_all [wordB, wordsL]

/-- A text's characters, each with where it begins. -/
def chars : Nat → Nat → List UInt8 → List (Int × Nat)
  | 0, _, _ => []
  | _ + 1, _, [] => []
  | f + 1, pos, b :: l => (((decL (b :: l)).1 : Int), pos) :: chars f (pos + (decL (b :: l)).2) ((b :: l).drop (decL (b :: l)).2)
def charsOf (t : List UInt8) : List (Int × Nat) := chars t.length 0 t

theorem decL_pos (b : UInt8) (l : List UInt8) : 1 ≤ (decL (b :: l)).2 := by
  unfold decL Utf8.decode
  simp only
  repeat' split
  all_goals simp

theorem decL_le (l : List UInt8) (h : l ≠ []) : (decL l).2 ≤ l.length := Lib.decodeL_le l h

theorem chars_nil (f pos : Nat) : chars f pos [] = [] := by cases f <;> rfl
theorem chars_drop {t : List UInt8} {pos : Nat} (h : pos < t.length) (f : Nat) : chars (f + 1) pos (t.drop pos) = (((decL (t.drop pos)).1 : Int), pos) :: chars f (pos + (decL (t.drop pos)).2) (t.drop (pos + (decL (t.drop pos)).2)) := by
  rw [← List.drop_drop]
  cases hc : t.drop pos with
  | nil => have := congrArg List.length hc; simp at this; omega
  | cons b l => rfl

theorem decL_pos' {t : List UInt8} {pos : Nat} (h : pos < t.length) : 1 ≤ (decL (t.drop pos)).2 := by
  cases hc : t.drop pos with
  | nil => have := congrArg List.length hc; simp at this; omega
  | cons b l => exact decL_pos b l

theorem chars_end {t : List UInt8} {f : Nat} : chars f t.length (t.drop t.length) = [] := by rw [List.drop_length]; exact chars_nil _ _

theorem spell_loop {t : List UInt8} {H : Nat → Option AO} {T : Nat → Option Nat} {it p : Nat} {K : Kt} (hl : t.length ≤ 100000)
    (hK : ∀ fr n' m', fr 3 = some (.lst 2 ((charsOf t).map chP) (some p)) → fr 0 = some (.str t) → it < n' → p < m' → K (.exit 0) ⟨fr, ⟨hset H it (some (.siter t t.length)), hset T p (some (charsOf t).length), n', m'⟩⟩) :
    ∀ (f pos : Nat) (done : List (Int × Nat)) (n m : Nat), it < n → p < m → t.length ≤ pos + f → done.length ≤ pos → pos ≤ t.length → done ++ chars f pos (t.drop pos) = charsOf t → LoopV [0, 3, 11] (pw cx lb_scan_spell_0) K
      [.str t, .lst 2 (done.map chP) (some p), .ptr it 0] ⟨hset H it (some (.siter t pos)), hset T p (some done.length), n, m⟩ := by
  intro f
  induction f with
  | zero =>
    intro pos done n m hit hp hf hd hpl he
    have : pos = t.length := by omega
    subst this
    have hd2 : done = charsOf t := by rw [← he]; simp [chars]
    subst hd2
    refine LoopV.round ?_
    repeat' first
      | simp (maxSteps := 3000000) (disch := omega) only [go_sem, ↓reduceIte, Nat.reduceEqDiff, Nat.reduceAdd, Nat.reduceLeDiff, Nat.le_refl, Int.reduceEq, Int.reduceLE, Int.reduceLT, Int.reduceNe, Int.reduceSub, Int.reduceAdd, Int.reduceMul, Int.reduceNeg, Int.reduceToNat, Nat.reduceMul, Nat.mul_one, ne_eq, not_true_eq_false, not_false_eq_true, w64, wu8, wu64, wi32, dec_t, dec_f, hset_self]
      | (refine And.intro (by omega) ?_)
      | (refine gsplit_intro (fun h => ?_) (fun h => ?_) <;> (try simp only [decide_eq_true_eq, decide_eq_false_iff_not] at h))
    exact fun _ => hK _ n m rfl rfl hit hp
  | succ f ih =>
    intro pos done n m hit hp hf hd hpl he
    refine LoopV.round ?_
    repeat' first
      | simp (maxSteps := 3000000) (disch := omega) only [go_sem, ↓reduceIte, Nat.reduceEqDiff, Nat.reduceAdd, Nat.reduceLeDiff, Nat.le_refl, Int.reduceEq, Int.reduceLE, Int.reduceLT, Int.reduceNe, Int.reduceSub, Int.reduceAdd, Int.reduceMul, Int.reduceNeg, Int.reduceToNat, Nat.reduceMul, Nat.mul_one, ne_eq, not_true_eq_false, not_false_eq_true, w64, wu8, wu64, wi32, dec_t, dec_f, hset_self]
      | (refine And.intro (by omega) ?_)
      | (refine gsplit_intro (fun h => ?_) (fun h => ?_) <;> (try simp only [decide_eq_true_eq, decide_eq_false_iff_not] at h))
    refine ⟨fun hlt => ⟨by omega, by omega, LoopI.same ?_⟩, fun hge => ?_⟩
    · have hw := decL_pos' hlt
      have hw2 := decL_le (t.drop pos) (by intro e; have := congrArg List.length e; simp at this; omega)
      rw [List.length_drop] at hw2
      rw [chars_drop hlt] at he
      have := ih (pos + (decL (t.drop pos)).2) (done ++ [(((decL (t.drop pos)).1 : Int), pos)]) (n + 1) (m + 1) (by omega) (by omega) (by omega) (by simp; omega) (by omega) (by rw [← he]; simp)
      simpa only [List.map_append, List.map_cons, List.map_nil, chP, List.length_append, List.length_cons, List.length_nil, Nat.zero_add] using this
    · have : pos = t.length := by omega
      subst this
      rw [chars_end, List.append_nil] at he
      subst he
      exact hK _ n m rfl rfl hit hp

/-- A text's characters, and one behind them all. -/
def chT (t : List UInt8) : List (Int × Nat) := charsOf t ++ [(-1, t.length)]

theorem charsOf_length (t : List UInt8) : (charsOf t).length ≤ t.length := by
  have key : ∀ (f pos : Nat) (l : List UInt8), (chars f pos l).length ≤ f := by
    intro f
    induction f with
    | zero => intro pos l; simp [chars]
    | succ f ih =>
      intro pos l
      cases l with
      | nil => simp [chars]
      | cons b l => simp only [chars, List.length_cons]; have := ih (pos + (decL (b :: l)).2) ((b :: l).drop (decL (b :: l)).2); omega
  exact key _ _ _

theorem spell_ok {t : List UInt8} {s : Hs} (hl : t.length ≤ 100000) : CallP cx 18 [.str t] s (To (.ret (.lst 2 ((chT t).map chP) none)) s s.H s.T) := by
  refine call_to cx_ok chk_scan_spell rfl fun wd => ?_
  unfold callW fp_scan_spell
  repeat' first
    | simp (maxSteps := 3000000) (disch := omega) only [go_sem, ↓reduceIte, Nat.reduceEqDiff, Nat.reduceAdd, Nat.reduceLeDiff, Nat.le_refl, Int.reduceEq, Int.reduceLE, Int.reduceLT, Int.reduceNe, Int.reduceSub, Int.reduceAdd, Int.reduceMul, Int.reduceNeg, Int.reduceToNat, Nat.reduceMul, Nat.mul_one, ne_eq, not_true_eq_false, not_false_eq_true, w64, wu8, wu64, wi32, dec_t, dec_f]
    | (refine And.intro (by omega) ?_)
    | (refine gsplit_intro (fun h => ?_) (fun h => ?_) <;> (try simp only [decide_eq_true_eq, decide_eq_false_iff_not] at h))
  refine spell_loop (T := hset s.T s.m (some 0)) (done := []) hl (fun fr n' m' h3 h0 hit hp => ?_) t.length 0 _ _ (by omega) (by omega) (by omega) (by simp) (by omega) rfl
  have hle := charsOf_length t
  repeat' first
    | simp (maxSteps := 3000000) (disch := omega) only [go_sem, ↓reduceIte, Nat.reduceEqDiff, Nat.reduceAdd, Nat.reduceLeDiff, Nat.le_refl, Int.reduceEq, Int.reduceLE, Int.reduceLT, Int.reduceNe, Int.reduceSub, Int.reduceAdd, Int.reduceMul, Int.reduceNeg, Int.reduceToNat, Nat.reduceMul, Nat.mul_one, ne_eq, not_true_eq_false, not_false_eq_true, w64, wu8, wu64, wi32, dec_t, dec_f, h3, h0]
    | (refine And.intro (by omega) ?_)
    | (refine gsplit_intro (fun h => ?_) (fun h => ?_) <;> (try simp only [decide_eq_true_eq, decide_eq_false_iff_not] at h))
  refine ToLe.mk (fun E x h => ?_) ?_ ?_ (by simp only []; omega) (by simp only []; omega)
  · have := fgt_le 2 _ _ E x h
    simpa [chT, chP] using this
  · exact Hle.new _ (wd.h0 1) (Hle.refl _)
  · exact Hle.new _ (wd.t0 1) (Hle.new _ (wd.t0 1) (Hle.new _ (wd.t0 0) (Hle.refl _)))

def goodB (c : Int × Nat) : Bool := partB c.1 && !(decide (c.2 = 0) && digitB c.1)
def nameB (t : List UInt8) : Bool := !decide (t = []) && decide (t.length ≤ 20) && !wordB t && (charsOf t).all goodB

theorem name_loop {t : List UInt8} {H : Nat → Option AO} {T : Nat → Option Nat} {it n m : Nat} {K : Kt} (hl : t.length ≤ 100000) :
    ∀ (f pos : Nat), t.length ≤ pos + f → pos ≤ t.length →
      (∀ fr pos', ((chars f pos (t.drop pos)).all goodB = true → K (.exit 0) ⟨fr, ⟨hset H it (some (.siter t pos')), T, n, m⟩⟩) ∧ ((chars f pos (t.drop pos)).all goodB = false → fr 2 = some (.bool false) → K .ret ⟨fr, ⟨hset H it (some (.siter t pos')), T, n, m⟩⟩)) →
      LoopV [17] (pw cx lb_scan_Name_0) K [.ptr it 0] ⟨hset H it (some (.siter t pos)), T, n, m⟩ := by
  intro f
  induction f with
  | zero =>
    intro pos hf hpl hK
    have : pos = t.length := by omega
    subst this
    refine LoopV.round ?_
    repeat' first
      | simp (maxSteps := 3000000) (disch := omega) only [go_sem, ↓reduceIte, Nat.reduceEqDiff, Nat.reduceAdd, Nat.reduceLeDiff, Nat.le_refl, Int.reduceEq, Int.reduceLE, Int.reduceLT, Int.reduceNe, Int.reduceSub, Int.reduceAdd, Int.reduceMul, Int.reduceNeg, Int.reduceToNat, Nat.reduceMul, Nat.mul_one, ne_eq, not_true_eq_false, not_false_eq_true, w64, wu8, wu64, wi32, dec_t, dec_f, hset_self]
      | (refine And.intro (by omega) ?_)
      | (refine gsplit_intro (fun h => ?_) (fun h => ?_) <;> (try simp only [decide_eq_true_eq, decide_eq_false_iff_not] at h))
    exact fun _ => (hK _ _).1 rfl
  | succ f ih =>
    intro pos hf hpl hK
    refine LoopV.round ?_
    by_cases hlt : pos < t.length
    · have hw := decL_pos' hlt
      have hw2 := decL_le (t.drop pos) (by intro e; have := congrArg List.length e; simp at this; omega)
      rw [List.length_drop] at hw2
      rw [chars_drop hlt] at hK
      have hnl : (t.length ≤ pos) = False := eq_false (by omega)
      have hlt' : (pos < t.length) = True := eq_true hlt
      have hih := ih (pos + (decL (t.drop pos)).2) (by omega) (by omega)
      simp only [List.all_cons] at hK
      have hz : decide ((pos : Int) = 0) = decide (pos = 0) := by simp
      repeat' first
        | simp (maxSteps := 3000000) only [go_sem, ↓reduceIte, Nat.reduceEqDiff, Nat.reduceAdd, Nat.reduceLeDiff, Nat.le_refl, Int.reduceEq, Int.reduceLE, Int.reduceLT, Int.reduceNe, Int.reduceSub, Int.reduceAdd, Int.reduceMul, Int.reduceNeg, Int.reduceToNat, Nat.reduceMul, Nat.mul_one, ne_eq, not_true_eq_false, not_false_eq_true, hset_self, hnl, hlt', hz, forall_const, false_implies]
        | (refine CallP.to (part_ok _ _) ?_)
        | (refine CallP.to (digit_ok _ _) ?_)
        | (refine And.intro (by omega) ?_)
        | (refine gsplit_intro (fun h => ?_) (fun h => ?_) <;> (try simp only [decide_eq_true_eq, decide_eq_false_iff_not] at h))
      all_goals first
        | (refine (hK _ _).2 ?_ rfl; simp_all [goodB]; done)
        | (have hg : goodB (((decL (t.drop pos)).1 : Int), pos) = true := by simp_all [goodB]
           exact LoopI.same (hih fun fr pos' => by have := hK fr pos'; rw [hg, Bool.true_and] at this; exact this))
    · have : pos = t.length := by omega
      subst this
      rw [chars_end] at hK
      repeat' first
        | simp (maxSteps := 3000000) (disch := omega) only [go_sem, ↓reduceIte, Nat.reduceEqDiff, Nat.reduceAdd, Nat.reduceLeDiff, Nat.le_refl, Int.reduceEq, Int.reduceLE, Int.reduceLT, Int.reduceNe, Int.reduceSub, Int.reduceAdd, Int.reduceMul, Int.reduceNeg, Int.reduceToNat, Nat.reduceMul, Nat.mul_one, ne_eq, not_true_eq_false, not_false_eq_true, w64, wu8, wu64, wi32, dec_t, dec_f, hset_self]
        | (refine And.intro (by omega) ?_)
        | (refine gsplit_intro (fun h => ?_) (fun h => ?_) <;> (try simp only [decide_eq_true_eq, decide_eq_false_iff_not] at h))
      exact fun _ => (hK _ _).1 rfl

theorem name_ok {t : List UInt8} {s : Hs} (hl : t.length ≤ 100000) : CallP cx 10 [.str t] s (To (.ret (.bool (nameB t))) s s.H s.T) := by
  refine call_to cx_ok chk_scan_Name rfl fun wd => ?_
  unfold callW fp_scan_Name
  repeat' first
    | simp (maxSteps := 3000000) only [go_sem, ↓reduceIte, Nat.reduceEqDiff, Nat.reduceAdd, Nat.reduceLeDiff, Nat.le_refl, Int.reduceEq, Int.reduceLE, Int.reduceLT, Int.reduceNe, Int.reduceSub, Int.reduceAdd, Int.reduceMul, Int.reduceNeg, Int.reduceToNat, Nat.reduceMul, Nat.mul_one, ne_eq, not_true_eq_false, not_false_eq_true]
    | (refine CallP.to (word_ok _ _) ?_)
    | (refine And.intro (by omega) ?_)
    | (refine gsplit_intro (fun h => ?_) (fun h => ?_) <;> (try simp only [decide_eq_true_eq, decide_eq_false_iff_not] at h))
  · rw [show nameB t = false by simp [nameB, h]]; exact ToLe.self
  · rename_i h0; rw [show nameB t = false by simp [nameB, h0]; omega]; exact ToLe.self
  · rename_i h0 h1; rw [show nameB t = false by simp [nameB, h]]; exact ToLe.self
  · rename_i h0 h1
    have hn : nameB t = (charsOf t).all goodB := by simp [nameB, h0, h]; omega
    refine name_loop hl t.length 0 (by omega) (by omega) (fun fr pos' => ⟨fun hg => ?_, fun hg h2 => ?_⟩)
    · rw [hn, show (charsOf t).all goodB = true from hg]
      repeat' first
        | simp (maxSteps := 3000000) (disch := omega) only [go_sem, ↓reduceIte, Nat.reduceEqDiff, Nat.reduceAdd, Nat.reduceLeDiff, Nat.le_refl, Int.reduceEq, Int.reduceLE, Int.reduceLT, Int.reduceNe, Int.reduceSub, Int.reduceAdd, Int.reduceMul, Int.reduceNeg, Int.reduceToNat, Nat.reduceMul, Nat.mul_one, ne_eq, not_true_eq_false, not_false_eq_true, w64, wu8, wu64, wi32, dec_t, dec_f]
        | (refine And.intro (by omega) ?_)
        | (refine gsplit_intro (fun h => ?_) (fun h => ?_) <;> (try simp only [decide_eq_true_eq, decide_eq_false_iff_not] at h))
      exact ToLe.mk (OutLe.refl _) (Hle.new _ (wd.h0 0) (Hle.refl _)) (Hle.refl _) (by simp only []; omega) (by simp only []; omega)
    · rw [hn, show (charsOf t).all goodB = false from hg]
      repeat' first
        | simp (maxSteps := 3000000) (disch := omega) only [go_sem, ↓reduceIte, Nat.reduceEqDiff, Nat.reduceAdd, Nat.reduceLeDiff, Nat.le_refl, Int.reduceEq, Int.reduceLE, Int.reduceLT, Int.reduceNe, Int.reduceSub, Int.reduceAdd, Int.reduceMul, Int.reduceNeg, Int.reduceToNat, Nat.reduceMul, Nat.mul_one, ne_eq, not_true_eq_false, not_false_eq_true, w64, wu8, wu64, wi32, dec_t, dec_f, h2]
        | (refine And.intro (by omega) ?_)
        | (refine gsplit_intro (fun h => ?_) (fun h => ?_) <;> (try simp only [decide_eq_true_eq, decide_eq_false_iff_not] at h))
      exact ToLe.mk (OutLe.refl _) (Hle.new _ (wd.h0 0) (Hle.refl _)) (Hle.refl _) (by simp only []; omega) (by simp only []; omega)
end Go.Proofs.YteapohlamngkpaaDoor
