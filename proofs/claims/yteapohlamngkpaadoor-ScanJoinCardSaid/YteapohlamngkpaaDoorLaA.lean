/-
  Layer 2's law: raw numbers, words.
-/
import Derived.Test.YteapohlamngkpaaDoorPt
import Derived.Test.YteapohlamngkpaaDoorPy
namespace Go.Proofs.YteapohlamngkpaaDoor
open Go.Pv
attribute [local irreducible] Go.Pv.CallP Go.Pv.gsplit Go.Pv.ToLe Go.Pv.LoopV
set_option linter.unusedVariables false
set_option linter.unusedSimpArgs false
set_option maxRecDepth 100000
set_option maxHeartbeats 4000000

theorem pick2_ok {c n : Int} {s : Hs} (hc : I64 c) (hn : 0 < n) (hn2 : n ≤ 9223372036854775807) : CallP cx 15 [.int .i64 c, .int .i64 n] s (Is (.ret (.int .i64 (pickI c n))) s) := by
  unfold I64 at hc
  refine call_ok cx_ok chk_counterprooflaw02_pick rfl ?_
  unfold callW fp_counterprooflaw02_pick
  repeat' first
    | simp (maxSteps := 3000000) (disch := omega) only [go_sem, ↓reduceIte, Nat.reduceEqDiff, Nat.reduceAdd, Nat.reduceLeDiff, Nat.le_refl, Int.reduceEq, Int.reduceLE, Int.reduceLT, Int.reduceNe, Int.reduceSub, Int.reduceAdd, Int.reduceMul, Int.reduceNeg, Int.reduceToNat, Nat.reduceMul, Nat.mul_one, ne_eq, not_true_eq_false, not_false_eq_true, w64, wu8, wu64, wi32, dec_t, dec_f]
    | (refine And.intro (by omega) ?_)
    | (refine gsplit_intro (fun h => ?_) (fun h => ?_) <;> (try simp only [decide_eq_true_eq, decide_eq_false_iff_not] at h))
  · rw [Int.tmod_eq_emod_of_nonneg (by omega), show pickI c n = (0 - (c + 1)) % n by rw [pickI, if_pos h]; congr 1; omega]
    exact Is.mk _ _
  · rw [Int.tmod_eq_emod_of_nonneg (by omega), show pickI c n = c % n by rw [pickI, if_neg h]]
    exact Is.mk _ _

def dig (n : Nat) : UInt8 := UInt8.ofNat (48 + n % 10)
def numL (n : Nat) : List UInt8 := if n < 10 then [dig n] else numL (n / 10) ++ [dig n]
termination_by n

theorem numL_lt {n : Nat} (h : n < 10) : numL n = [dig n] := by rw [numL, if_pos h]
theorem numL_ge {n : Nat} (h : ¬ n < 10) : numL n = numL (n / 10) ++ [dig n] := by rw [numL, if_neg h]
theorem numL_step (n : Nat) (h : 0 < n) (acc : List UInt8) : (if 0 < n / 10 then numL (n / 10) else []) ++ (dig n :: acc) = numL n ++ acc := by
  by_cases h1 : n < 10
  · rw [numL_lt h1, if_neg (by omega)]; rfl
  · rw [numL_ge h1, if_pos (by omega), List.append_assoc]; rfl
theorem numL_step0 (n : Nat) (acc : List UInt8) : (if 0 < n / 10 then numL (n / 10) else []) ++ (dig n :: acc) = numL n ++ acc := by
  by_cases h : 0 < n
  · exact numL_step n h acc
  · have : n = 0 := by omega
    subst this
    rw [numL_lt (by decide)]; rfl

theorem dig_eqs (n : Nat) (hm : n ≤ 9223372036854775807) : ((n : Int)).tmod 10 = ((n % 10 : Nat) : Int) ∧ IntKind.i64.wrap (48 + ((n % 10 : Nat) : Int)) = ((48 + n % 10 : Nat) : Int) ∧ IntKind.u8.wrap ((48 + n % 10 : Nat) : Int) = ((48 + n % 10 : Nat) : Int) ∧
    ((n : Int)).tdiv 10 = ((n / 10 : Nat) : Int) ∧ IntKind.i64.wrap ((n / 10 : Nat) : Int) = ((n / 10 : Nat) : Int) := by
  refine ⟨?_, ?_, ?_, ?_, ?_⟩
  · rw [Int.tmod_eq_emod_of_nonneg (by omega)]; rfl
  · rw [w64 (by omega) (by omega)]; omega
  · exact wu8 (by omega) (by omega)
  · rw [Int.tdiv_eq_ediv_of_nonneg (by omega)]; rfl
  · exact w64 (by omega) (by omega)

theorem num_loop {H : Nat → Option AO} {T : Nat → Option Nat} {K : Kt} : ∀ (d n : Nat) (acc : List UInt8) (nn m : Nat), Wf2 H T nn m → n < 10 ^ d → acc.length + d ≤ 1000 → n ≤ 9223372036854775807 →
    (∀ fr n' m', nn ≤ n' → m ≤ m' → fr 3 = some (.str ((if 0 < n then numL n else []) ++ acc)) → K (.exit 0) ⟨fr, ⟨H, T, n', m'⟩⟩) →
    LoopV [0, 3, 4] (pw cx lb_counterprooflaw02_num_0) K [.int .i64 n, .str acc, .bool false] ⟨H, T, nn, m⟩ := by
  intro d
  induction d with
  | zero =>
    intro n acc nn m hw hn hl hm hK
    have h0 : n = 0 := by simpa using hn
    subst h0
    refine LoopV.round ?_
    repeat' first
      | simp (maxSteps := 3000000) (disch := omega) only [go_sem, ↓reduceIte, Nat.reduceEqDiff, Nat.reduceAdd, Nat.reduceLeDiff, Nat.le_refl, Int.reduceEq, Int.reduceLE, Int.reduceLT, Int.reduceNe, Int.reduceSub, Int.reduceAdd, Int.reduceMul, Int.reduceNeg, Int.reduceToNat, Nat.reduceMul, Nat.mul_one, ne_eq, not_true_eq_false, not_false_eq_true, w64, wu8, wu64, wi32, dec_t, dec_f]
      | (refine And.intro (by omega) ?_)
      | (refine gsplit_intro (fun h => ?_) (fun h => ?_) <;> (try simp only [decide_eq_true_eq, decide_eq_false_iff_not] at h))
    exact hK _ _ _ (Nat.le_refl _) (Nat.le_refl _) rfl
  | succ d ih =>
    intro n acc nn m hw hn hl hm hK
    refine LoopV.round ?_
    obtain ⟨e1, e2, e3, e4, e5⟩ := dig_eqs n hm
    repeat' first
      | simp (maxSteps := 3000000) (disch := omega) only [go_sem, ↓reduceIte, Nat.reduceEqDiff, Nat.reduceAdd, Nat.reduceLeDiff, Nat.le_refl, Int.reduceEq, Int.reduceLE, Int.reduceLT, Int.reduceNe, Int.reduceSub, Int.reduceAdd, Int.reduceMul, Int.reduceNeg, Int.reduceToNat, Nat.reduceMul, Nat.mul_one, ne_eq, not_true_eq_false, not_false_eq_true, w64, wu8, wu64, wi32, dec_t, dec_f, e1, e2, e3, e4, e5, bytesOf]
      | (refine And.intro (by omega) ?_)
      | (refine gsplit_intro (fun h => ?_) (fun h => ?_) <;> (try simp only [decide_eq_true_eq, decide_eq_false_iff_not] at h))
    · refine LoopI.drop H T _ _ (Hle.refl _) (Hle.new _ (hw.2 m (Nat.le_refl _)) (Hle.refl _)) (Nat.le_refl _) (Nat.le_refl _) (ih _ _ _ _ (hw.mono (Nat.le_succ _) (Nat.le_succ _)) (by rw [Nat.pow_succ] at hn; omega) (by simp; omega) (by omega) fun fr n' m' h1 h2 h3 => ?_)
      refine hK fr n' m' (Nat.le_trans (Nat.le_succ _) h1) (Nat.le_trans (Nat.le_succ _) h2) ?_
      rw [h3, if_pos (by omega : 0 < n)]
      exact congrArg (fun l => some (PV.str l)) (numL_step n (by omega) acc)
    · refine hK _ _ _ (Nat.le_refl _) (Nat.le_refl _) ?_
      rw [if_neg (by omega)]
      rfl

theorem num2_ok {n : Nat} {s : Hs} (hn : n ≤ 9223372036854775807) : CallP cx 16 [.int .i64 n] s (To (.ret (.str (numL n))) s s.H s.T) := by
  obtain ⟨e1, e2, e3, e4, e5⟩ := dig_eqs n hn
  refine call_to cx_ok chk_counterprooflaw02_num rfl fun wd => ?_
  unfold callW fp_counterprooflaw02_num
  repeat' first
    | simp (maxSteps := 3000000) (disch := omega) only [go_sem, ↓reduceIte, Nat.reduceEqDiff, Nat.reduceAdd, Nat.reduceLeDiff, Nat.le_refl, Int.reduceEq, Int.reduceLE, Int.reduceLT, Int.reduceNe, Int.reduceSub, Int.reduceAdd, Int.reduceMul, Int.reduceNeg, Int.reduceToNat, Nat.reduceMul, Nat.mul_one, ne_eq, not_true_eq_false, not_false_eq_true, w64, wu8, wu64, wi32, dec_t, dec_f]
    | (refine And.intro (by omega) ?_)
    | (refine gsplit_intro (fun h => ?_) (fun h => ?_) <;> (try simp only [decide_eq_true_eq, decide_eq_false_iff_not] at h))
  refine LoopV.round ?_
  repeat' first
    | simp (maxSteps := 3000000) (disch := omega) only [go_sem, ↓reduceIte, Nat.reduceEqDiff, Nat.reduceAdd, Nat.reduceLeDiff, Nat.le_refl, Int.reduceEq, Int.reduceLE, Int.reduceLT, Int.reduceNe, Int.reduceSub, Int.reduceAdd, Int.reduceMul, Int.reduceNeg, Int.reduceToNat, Nat.reduceMul, Nat.mul_one, ne_eq, not_true_eq_false, not_false_eq_true, w64, wu8, wu64, wi32, dec_t, dec_f, e1, e2, e3, e4, e5, bytesOf]
    | (refine And.intro (by omega) ?_)
    | (refine gsplit_intro (fun h => ?_) (fun h => ?_) <;> (try simp only [decide_eq_true_eq, decide_eq_false_iff_not] at h))
  refine LoopI.drop s.H s.T _ _ (Hle.refl _) (Hle.new _ (wd.t0 0) (Hle.refl _)) (Nat.le_refl _) (Nat.le_refl _) (num_loop 19 _ _ _ _ (Wf2.mono (n := s.n) (m := s.m) ⟨wd.1, wd.2⟩ (Nat.le_succ _) (Nat.le_succ _)) (by omega) (by simp) (by omega) fun fr n' m' h1 h2 h3 => ?_)
  have h3' : fr 3 = some (.str (numL n)) := by rw [h3]; have := numL_step0 n []; rw [List.append_nil] at this; rw [← this]; rfl
  repeat' first
    | simp (maxSteps := 3000000) (disch := omega) only [go_sem, ↓reduceIte, Nat.reduceEqDiff, Nat.reduceAdd, Nat.reduceLeDiff, Nat.le_refl, Int.reduceEq, Int.reduceLE, Int.reduceLT, Int.reduceNe, Int.reduceSub, Int.reduceAdd, Int.reduceMul, Int.reduceNeg, Int.reduceToNat, Nat.reduceMul, Nat.mul_one, ne_eq, not_true_eq_false, not_false_eq_true, w64, wu8, wu64, wi32, dec_t, dec_f, h3']
    | (refine And.intro (by omega) ?_)
    | (refine gsplit_intro (fun h => ?_) (fun h => ?_) <;> (try simp only [decide_eq_true_eq, decide_eq_false_iff_not] at h))
  exact ToLe.same (Nat.le_trans (Nat.le_succ _) h1) (Nat.le_trans (Nat.le_succ _) h2)

def varS : List (List UInt8) := [[], [49], [95], [90, 57], [105, 102], [120], [48], [97, 97], [105, 110, 116, 105, 110, 116], [113, 55], [66], [48, 48]]
def varB (k : Nat) : List UInt8 := UInt8.ofNat (97 + k % 26) :: varS.getD (k / 26) []
def varL (c : Int) : List UInt8 := varB (pickI c 312).toNat

theorem var_ok {c : Int} {s : Hs} (hc : I64 c) : CallP cx 17 [.int .i64 c] s (To (.ret (.str (varL c))) s s.H s.T) := by
  have h1 := pickI_ge c (n := 312) (by decide)
  have h2 := pickI_lt c (n := 312) (by decide)
  unfold varL
  obtain ⟨k, hk⟩ : ∃ k : Nat, pickI c 312 = k := ⟨(pickI c 312).toNat, by omega⟩
  rw [hk, Int.toNat_natCast]
  have e1 : ((k : Int)).tmod 26 = ((k % 26 : Nat) : Int) := by rw [Int.tmod_eq_emod_of_nonneg (by omega)]; rfl
  have e2 : IntKind.i64.wrap (97 + ((k % 26 : Nat) : Int)) = ((97 + k % 26 : Nat) : Int) := by rw [w64 (by omega) (by omega)]; omega
  have e3 : IntKind.u8.wrap ((97 + k % 26 : Nat) : Int) = ((97 + k % 26 : Nat) : Int) := wu8 (by omega) (by omega)
  have e4 : ((k : Int)).tdiv 26 = ((k / 26 : Nat) : Int) := by rw [Int.tdiv_eq_ediv_of_nonneg (by omega)]; rfl
  have e5 : IntKind.i64.wrap ((k / 26 : Nat) : Int) = ((k / 26 : Nat) : Int) := w64 (by omega) (by omega)
  have he := elem_strs varS (k / 26) (by show k / 26 < 12; omega)
  have hl : (varS.getD (k / 26) []).length ≤ 100 := by
    have : k / 26 < 12 := by omega
    generalize k / 26 = j at this
    revert j; decide
  unfold varB
  generalize hw : varS.getD (k / 26) [] = w at he hl ⊢
  simp only [varS, List.map_cons, List.map_nil] at he
  refine call_to cx_ok chk_counterprooflaw02_Var rfl fun wd => ?_
  unfold callW fp_counterprooflaw02_Var
  repeat' first
    | simp (maxSteps := 3000000) (disch := omega) only [go_sem, ↓reduceIte, Nat.reduceEqDiff, Nat.reduceAdd, Nat.reduceLeDiff, Nat.le_refl, Int.reduceEq, Int.reduceLE, Int.reduceLT, Int.reduceNe, Int.reduceSub, Int.reduceAdd, Int.reduceMul, Int.reduceNeg, Int.reduceToNat, Nat.reduceMul, Nat.mul_one, ne_eq, not_true_eq_false, not_false_eq_true, w64, wu8, wu64, wi32, dec_t, dec_f, hk, e1, e2, e3, e4, e5, he, bytesOf]
    | (refine CallP.to (pick2_ok hc (by decide) (by decide)) ?_)
    | (refine And.intro (by omega) ?_)
    | (refine gsplit_intro (fun h => ?_) (fun h => ?_) <;> (try simp only [decide_eq_true_eq, decide_eq_false_iff_not] at h))
  refine ToLe.mk (OutLe.refl _) ?_ ?_ ?_ ?_
  · repeat' (first | exact Hle.refl _ | refine Hle.new _ (by first | exact wd.h0 _ | exact wd.1 _ (by simp only []; omega) | exact wd.1 _ (by omega)) ?_)
  · repeat' (first | exact Hle.refl _ | refine Hle.new _ (by first | exact wd.t0 _ | exact wd.2 _ (by simp only []; omega) | exact wd.2 _ (by omega)) ?_)
  · first | omega | (simp only []; omega)
  · first | omega | (simp only []; omega)

def kwS : List (List UInt8) := [[105, 110, 116], [105, 102], [101, 108, 115, 101], [119, 104, 105, 108, 101], [98, 114, 101, 97, 107], [99, 111, 110, 116, 105, 110, 117, 101], [114, 101, 116, 117, 114, 110], [112, 114, 105, 110, 116], [114, 101, 97, 100], [116, 114, 97, 112]]
def signS : List (List UInt8) := [[40], [41], [123], [125], [91], [93], [44], [59], [61], [124], [94], [38], [43], [45], [42], [47], [37], [33], [126], [60], [62], [61, 61], [33, 61], [60, 61], [62, 61], [60, 60], [62, 62]]
/-- A raw word: its text, its kind. -/
def wordI (n c : Int) : List UInt8 × Int :=
  if (pickI n 44).toNat < 10 then (kwS.getD (pickI n 44).toNat [], 2)
  else if (pickI n 44).toNat < 37 then (signS.getD ((pickI n 44).toNat - 10) [], 4)
  else if (pickI n 44).toNat < 40 then (numL (pickI c 1099511627776).toNat, 3)
  else if (pickI n 44).toNat = 40 then (39 :: runeStr (161 + pickI c 8192) ++ [39], 3)
  else (varL c, 1)

theorem runeStr_length (n : Int) : (runeStr n).length ≤ 4 := by
  unfold runeStr Utf8.encode
  simp only
  repeat' split
  all_goals simp

theorem word2_ok {n c : Int} {s : Hs} (hn : I64 n) (hc : I64 c) : CallP cx 8 [.int .i64 n, .int .i64 c] s (To (.ret (.tup [.str (wordI n c).1, .int .i64 (wordI n c).2])) s s.H s.T) := by
  have h1 := pickI_ge n (n := 44) (by decide)
  have h2 := pickI_lt n (n := 44) (by decide)
  unfold wordI
  obtain ⟨k, hk⟩ : ∃ k : Nat, pickI n 44 = k := ⟨(pickI n 44).toNat, by omega⟩
  rw [hk, Int.toNat_natCast]
  have g1 := pickI_ge c (n := 1099511627776) (by decide)
  have g2 := pickI_lt c (n := 1099511627776) (by decide)
  have g3 := pickI_ge c (n := 8192) (by decide)
  have g4 := pickI_lt c (n := 8192) (by decide)
  have e3 : IntKind.i64.wrap (161 + pickI c 8192) = 161 + pickI c 8192 := w64 (by omega) (by omega)
  have e4 : IntKind.i32.wrap (161 + pickI c 8192) = 161 + pickI c 8192 := wi32 (by omega) (by omega)
  have rl := runeStr_length (161 + pickI c 8192)
  obtain ⟨m, hm⟩ : ∃ m : Nat, pickI c 1099511627776 = m := ⟨(pickI c 1099511627776).toNat, by omega⟩
  rw [hm, Int.toNat_natCast]
  refine call_to cx_ok chk_counterprooflaw02_Word rfl fun wd => ?_
  unfold callW fp_counterprooflaw02_Word
  by_cases c1 : k < 10
  · rw [if_pos c1]
    have he := elem_strs kwS k c1
    generalize hw : kwS.getD k [] = w at he ⊢
    simp only [kwS, List.map_cons, List.map_nil] at he
    repeat' first
      | simp (maxSteps := 3000000) (disch := omega) only [go_sem, ↓reduceIte, Nat.reduceEqDiff, Nat.reduceAdd, Nat.reduceLeDiff, Nat.le_refl, Int.reduceEq, Int.reduceLE, Int.reduceLT, Int.reduceNe, Int.reduceSub, Int.reduceAdd, Int.reduceMul, Int.reduceNeg, Int.reduceToNat, Nat.reduceMul, Nat.mul_one, ne_eq, not_true_eq_false, not_false_eq_true, w64, wu8, wu64, wi32, dec_t, dec_f, hk, he]
      | (refine CallP.to (pick2_ok hn (by decide) (by decide)) ?_)
      | (refine And.intro (by omega) ?_)
      | (refine gsplit_intro (fun h => ?_) (fun h => ?_) <;> (try simp only [decide_eq_true_eq, decide_eq_false_iff_not] at h))
    refine ToLe.mk (OutLe.refl _) ?_ ?_ ?_ ?_
    · repeat' (first | exact Hle.refl _ | refine Hle.new _ (by first | exact wd.h0 _ | exact wd.1 _ (by simp only []; omega) | exact wd.1 _ (by omega)) ?_)
    · repeat' (first | exact Hle.refl _ | refine Hle.new _ (by first | exact wd.t0 _ | exact wd.2 _ (by simp only []; omega) | exact wd.2 _ (by omega)) ?_)
    · first | omega | (simp only []; omega)
    · first | omega | (simp only []; omega)
  rw [if_neg c1]
  by_cases c2 : k < 37
  · rw [if_pos c2]
    have he := elem_strs signS (k - 10) (by show k - 10 < 27; omega)
    have e1 : IntKind.i64.wrap ((k : Int) - 10) = ((k - 10 : Nat) : Int) := by rw [w64 (by omega) (by omega)]; omega
    generalize hw : signS.getD (k - 10) [] = w at he ⊢
    simp only [signS, List.map_cons, List.map_nil] at he
    repeat' first
      | simp (maxSteps := 3000000) (disch := omega) only [go_sem, ↓reduceIte, Nat.reduceEqDiff, Nat.reduceAdd, Nat.reduceLeDiff, Nat.le_refl, Int.reduceEq, Int.reduceLE, Int.reduceLT, Int.reduceNe, Int.reduceSub, Int.reduceAdd, Int.reduceMul, Int.reduceNeg, Int.reduceToNat, Nat.reduceMul, Nat.mul_one, ne_eq, not_true_eq_false, not_false_eq_true, w64, wu8, wu64, wi32, dec_t, dec_f, hk, he, e1]
      | (refine CallP.to (pick2_ok hn (by decide) (by decide)) ?_)
      | (refine And.intro (by omega) ?_)
      | (refine gsplit_intro (fun h => ?_) (fun h => ?_) <;> (try simp only [decide_eq_true_eq, decide_eq_false_iff_not] at h))
    refine ToLe.mk (OutLe.refl _) ?_ ?_ ?_ ?_
    · repeat' (first | exact Hle.refl _ | refine Hle.new _ (by first | exact wd.h0 _ | exact wd.1 _ (by simp only []; omega) | exact wd.1 _ (by omega)) ?_)
    · repeat' (first | exact Hle.refl _ | refine Hle.new _ (by first | exact wd.t0 _ | exact wd.2 _ (by simp only []; omega) | exact wd.2 _ (by omega)) ?_)
    · first | omega | (simp only []; omega)
    · first | omega | (simp only []; omega)
  rw [if_neg c2]
  by_cases c3 : k < 40
  · rw [if_pos c3]
    repeat' first
      | simp (maxSteps := 3000000) (disch := omega) only [go_sem, ↓reduceIte, Nat.reduceEqDiff, Nat.reduceAdd, Nat.reduceLeDiff, Nat.le_refl, Int.reduceEq, Int.reduceLE, Int.reduceLT, Int.reduceNe, Int.reduceSub, Int.reduceAdd, Int.reduceMul, Int.reduceNeg, Int.reduceToNat, Nat.reduceMul, Nat.mul_one, ne_eq, not_true_eq_false, not_false_eq_true, w64, wu8, wu64, wi32, dec_t, dec_f, hk, hm]
      | (refine CallP.to (pick2_ok hn (by decide) (by decide)) ?_)
      | (refine CallP.to (pick2_ok hc (by decide) (by decide)) ?_)
      | (refine CallP.into (num2_ok (by omega)) (fun n2 m2 hn2 hm2 => ?_))
      | (refine And.intro (by omega) ?_)
      | (refine gsplit_intro (fun h => ?_) (fun h => ?_) <;> (try simp only [decide_eq_true_eq, decide_eq_false_iff_not] at h))
    simp only [] at hn2 hm2
    refine ToLe.mk (OutLe.refl _) ?_ ?_ ?_ ?_
    · repeat' (first | exact Hle.refl _ | refine Hle.new _ (by first | exact wd.h0 _ | exact wd.1 _ (by simp only []; omega) | exact wd.1 _ (by omega)) ?_)
    · repeat' (first | exact Hle.refl _ | refine Hle.new _ (by first | exact wd.t0 _ | exact wd.2 _ (by simp only []; omega) | exact wd.2 _ (by omega)) ?_)
    · first | omega | (simp only []; omega)
    · first | omega | (simp only []; omega)
  rw [if_neg c3]
  by_cases c4 : k = 40
  · rw [if_pos c4]
    repeat' first
      | simp (maxSteps := 3000000) (disch := omega) only [go_sem, ↓reduceIte, Nat.reduceEqDiff, Nat.reduceAdd, Nat.reduceLeDiff, Nat.le_refl, Int.reduceEq, Int.reduceLE, Int.reduceLT, Int.reduceNe, Int.reduceSub, Int.reduceAdd, Int.reduceMul, Int.reduceNeg, Int.reduceToNat, Nat.reduceMul, Nat.mul_one, ne_eq, not_true_eq_false, not_false_eq_true, w64, wu8, wu64, wi32, dec_t, dec_f, hk, c4, e3, e4]
      | (refine CallP.to (pick2_ok hn (by decide) (by decide)) ?_)
      | (refine CallP.to (pick2_ok hc (by decide) (by decide)) ?_)
      | (refine And.intro (by omega) ?_)
      | (refine gsplit_intro (fun h => ?_) (fun h => ?_) <;> (try simp only [decide_eq_true_eq, decide_eq_false_iff_not] at h))
    refine ToLe.mk (OutLe.refl _) ?_ ?_ ?_ ?_
    · repeat' (first | exact Hle.refl _ | refine Hle.new _ (by first | exact wd.h0 _ | exact wd.1 _ (by simp only []; omega) | exact wd.1 _ (by omega)) ?_)
    · repeat' (first | exact Hle.refl _ | refine Hle.new _ (by first | exact wd.t0 _ | exact wd.2 _ (by simp only []; omega) | exact wd.2 _ (by omega)) ?_)
    · first | omega | (simp only []; omega)
    · first | omega | (simp only []; omega)
  · rw [if_neg c4]
    repeat' first
      | simp (maxSteps := 3000000) (disch := omega) only [go_sem, ↓reduceIte, Nat.reduceEqDiff, Nat.reduceAdd, Nat.reduceLeDiff, Nat.le_refl, Int.reduceEq, Int.reduceLE, Int.reduceLT, Int.reduceNe, Int.reduceSub, Int.reduceAdd, Int.reduceMul, Int.reduceNeg, Int.reduceToNat, Nat.reduceMul, Nat.mul_one, ne_eq, not_true_eq_false, not_false_eq_true, w64, wu8, wu64, wi32, dec_t, dec_f, hk, hm]
      | (refine CallP.to (pick2_ok hn (by decide) (by decide)) ?_)
      | (refine CallP.into (var_ok hc) (fun n2 m2 hn2 hm2 => ?_))
      | (refine And.intro (by omega) ?_)
      | (refine gsplit_intro (fun h => ?_) (fun h => ?_) <;> (try simp only [decide_eq_true_eq, decide_eq_false_iff_not] at h))
    simp only [] at hn2 hm2
    refine ToLe.mk (OutLe.refl _) ?_ ?_ ?_ ?_
    · repeat' (first | exact Hle.refl _ | refine Hle.new _ (by first | exact wd.h0 _ | exact wd.1 _ (by simp only []; omega) | exact wd.1 _ (by omega)) ?_)
    · repeat' (first | exact Hle.refl _ | refine Hle.new _ (by first | exact wd.t0 _ | exact wd.2 _ (by simp only []; omega) | exact wd.2 _ (by omega)) ?_)
    · first | omega | (simp only []; omega)
    · first | omega | (simp only []; omega)
end Go.Proofs.YteapohlamngkpaaDoor
