/-
  Layer 2's law: ScanJoin.
-/
import Derived.Test.YteapohlamngkpaaDoorLaH
namespace Go.Proofs.YteapohlamngkpaaDoor
open Go.Pv
attribute [local irreducible] Go.Pv.CallP Go.Pv.gsplit Go.Pv.ToLe Go.Pv.LoopV
set_option linter.unusedVariables false
set_option linter.unusedSimpArgs false
set_option maxRecDepth 100000
set_option maxHeartbeats 4000000

/-! ### Line feeds of words -/
theorem feedsN_append (a b : List UInt8) : feedsN (a ++ b) = feedsN a + feedsN b := by simp [feedsN, List.filter_append]
theorem feedsN_zero {w : List UInt8} (h : ∀ b ∈ w, b ≠ 10) : feedsN w = 0 := by
  unfold feedsN
  rw [List.filter_eq_nil_iff.2 (by simpa using h)]; rfl
theorem part_nl {b : UInt8} (h : partB b.toNat = true) : b ≠ 10 := by rintro rfl; revert h; decide
theorem digit_nl {b : UInt8} (h : digitB b.toNat = true) : b ≠ 10 := by rintro rfl; revert h; decide
theorem okName_nl {w : List UInt8} (h : okName w = true) : ∀ b ∈ w, b ≠ 10 := by
  cases w with
  | nil => cases h
  | cons c t =>
    simp only [okName, Bool.and_eq_true, List.all_eq_true] at h
    intro b hb
    rcases List.mem_cons.1 hb with rfl | hb
    · exact part_nl (by simp [partB, h.1.1.1])
    · exact part_nl (h.1.1.2 b hb)
theorem runeStr_nl {r : Int} (h1 : 161 ≤ r) (h2 : r < 8400) : ∀ b ∈ runeStr r, b ≠ 10 := by
  obtain ⟨c, rfl⟩ : ∃ c : Nat, r = c := ⟨r.toNat, by omega⟩
  have hv : Utf8.valid (c : Int) = true := by simp [Utf8.valid]; omega
  have ne : ∀ n : Nat, 128 ≤ n → n < 256 → UInt8.ofNat n ≠ 10 := by
    intro n h1 h2 e
    have := congrArg UInt8.toNat e
    rw [u8_ofNat h2] at this
    have h3 : (10 : UInt8).toNat = 10 := rfl
    omega
  intro b hb
  unfold runeStr Utf8.encode at hb
  simp only [hv, if_true, Int.toNat_natCast] at hb
  rw [if_neg (by omega)] at hb
  split at hb
  · simp only [List.mem_cons, List.not_mem_nil, or_false] at hb
    rcases hb with rfl | rfl
    · exact ne _ (by omega) (by omega)
    · exact ne _ (by omega) (by omega)
  · rw [if_pos (by omega)] at hb
    simp only [List.mem_cons, List.not_mem_nil, or_false] at hb
    rcases hb with rfl | rfl | rfl
    · exact ne _ (by omega) (by omega)
    · exact ne _ (by omega) (by omega)
    · exact ne _ (by omega) (by omega)
theorem getD_all {l : List (List UInt8)} {k : Nat} {Q : List UInt8 → Prop} (h : ∀ w ∈ l, Q w) (h0 : Q []) : Q (l.getD k []) := by
  rw [List.getD_eq_getElem?_getD]
  cases hc : l[k]? with
  | none => exact h0
  | some w => exact h w (List.mem_of_getElem? hc)
theorem word_feeds (n c : Int) : feedsN (wordI n c).1 = 0 := by
  unfold wordI
  split
  · exact getD_all (Q := fun w => feedsN w = 0) (by decide) rfl
  split
  · exact getD_all (Q := fun w => feedsN w = 0) (by decide) rfl
  split
  · exact feedsN_zero fun b hb => digit_nl (numL_dig _ b hb)
  split
  · have g3 := pickI_ge c (n := 8192) (by decide)
    have g4 := pickI_lt c (n := 8192) (by decide)
    refine feedsN_zero fun b hb => ?_
    simp only [List.cons_append, List.mem_cons, List.mem_append, List.not_mem_nil, or_false] at hb
    rcases hb with rfl | hb | rfl
    · decide
    · exact runeStr_nl (by omega) (by omega) b hb
    · decide
  · exact feedsN_zero (okName_nl (varL_name c))
theorem gl_feeds (bl : Nat → List UInt8) : ∀ (l : List (Int × Int)) (i : Nat), (feedsN (gl bl i l) : Int) = glN bl i l
  | [], _ => rfl
  | p :: l, i => by
    simp only [gl, feedsN_append, word_feeds, glN, ← gl_feeds bl l]; omega

def bs0 (blanks : List Int) (j : Nat) : List UInt8 := blankL blanks j
theorem bs0_blk (blanks : List Int) (i : Nat) : Blk (bs0 blanks i) (feedsN (bs0 blanks i)) ∧ OkB (bs0 blanks i) := blankL_blk _ _
theorem bs0_len (blanks : List Int) (i : Nat) : (bs0 blanks i).length ≤ 11 := blankL_len _ _

theorem join_loop1 {raw : List (Int × Int)} {two : PV} {blanks : List Int} {H : Nat → Option AO} {T : Nat → Option Nat} {K : Kt} (hraw : ∀ p ∈ raw, I64 p.1 ∧ I64 p.2) (hl : raw.length ≤ 9223372036854775807) (hbl : ∀ x ∈ blanks, I64 x) (hbll : blanks.length ≤ 9223372036854775807) :
    ∀ (d i n m : Nat), i + d = min raw.length 20 →
      (∀ fr n' m', n ≤ n' → m ≤ m' → fr 1 = some two → fr 2 = some (.lst 1 (blanks.map intP) none) → fr 7 = some (.bool true) → fr 8 = some (.str (gl (bs0 blanks) 0 (raw.take 20))) → K (.exit 0) ⟨fr, ⟨H, T, n', m'⟩⟩) →
      LoopV [0, 1, 2, 7, 8, 9] (pw cx lb_counterprooflaw02_ScanJoin_2) K [.lst 2 (raw.map pairP) none, two, .lst 1 (blanks.map intP) none, .bool true, .str (gl (bs0 blanks) 0 (raw.take i)), .int .i64 i] ⟨H, T, n, m⟩ := by
  intro d
  induction d with
  | zero =>
    intro i n m hi hK
    refine LoopV.round ?_
    have e : i = min raw.length 20 := by omega
    have e2 : raw.take i = raw.take 20 := by rw [e]; exact take_min30 raw 20
    rw [e2]
    repeat' first
      | simp (maxSteps := 3000000) (disch := omega) only [go_sem, ↓reduceIte, Nat.reduceEqDiff, Nat.reduceAdd, Nat.reduceLeDiff, Nat.le_refl, Int.reduceEq, Int.reduceLE, Int.reduceLT, Int.reduceNe, Int.reduceSub, Int.reduceAdd, Int.reduceMul, Int.reduceNeg, Int.reduceToNat, Nat.reduceMul, Nat.mul_one, ne_eq, not_true_eq_false, not_false_eq_true, w64, wu8, wu64, wi32, dec_t, dec_f]
      | (refine And.intro (by omega) ?_)
      | (refine gsplit_intro (fun h => ?_) (fun h => ?_) <;> (try simp only [decide_eq_true_eq, decide_eq_false_iff_not] at h))
    all_goals exact hK _ _ _ (Nat.le_refl _) (Nat.le_refl _) rfl rfl rfl rfl
  | succ d ih =>
    intro i n m hi hK
    obtain ⟨x, hx⟩ : ∃ b, raw[i]? = some b := ⟨raw[i]'(by omega), by simp⟩
    have ex : elem (raw.map pairP) (i : Int) = pairP x := elem_at (by rw [Int.toNat_natCast]; exact hx)
    obtain ⟨hx1, hx2⟩ := hraw x (List.mem_of_getElem? hx)
    have hsl := gl_len (bs0_len blanks) (raw.take i) 0
    have hwl := wordI_len x.1 x.2
    have hti : (raw.take i).length = i := by rw [List.length_take]; omega
    rw [hti] at hsl
    have hb2 := bs0_len blanks i
    have e1 : gl (bs0 blanks) 0 (raw.take (i + 1)) = gl (bs0 blanks) 0 (raw.take i) ++ (wordI x.1 x.2).1 ++ bs0 blanks i := by rw [take_snoc hx, gl_snoc, hti, Nat.zero_add]
    have hbk : ∀ s, CallP cx 12 [.lst 1 (blanks.map intP) none, .int .i64 (i : Int)] s (To (.ret (.str (bs0 blanks i))) s s.H s.T) := fun s => blank_ok (i := i) hbl (by omega) hbll
    refine LoopV.round ?_
    repeat' first
      | simp (maxSteps := 3000000) (disch := omega) only [go_sem, ↓reduceIte, Nat.reduceEqDiff, Nat.reduceAdd, Nat.reduceLeDiff, Nat.le_refl, Int.reduceEq, Int.reduceLE, Int.reduceLT, Int.reduceNe, Int.reduceSub, Int.reduceAdd, Int.reduceMul, Int.reduceNeg, Int.reduceToNat, Nat.reduceMul, Nat.mul_one, ne_eq, not_true_eq_false, not_false_eq_true, w64, wu8, wu64, wi32, dec_t, dec_f, ex, pairP, List.length_append]
      | (refine CallP.into (word2_ok hx1 hx2) (fun n2 m2 hn2 hm2 => ?_); try dsimp only at hn2 hm2)
      | (refine CallP.into (hbk _) (fun n2 m2 hn2 hm2 => ?_); try dsimp only at hn2 hm2)
      | (refine And.intro (by omega) ?_)
      | (refine gsplit_intro (fun h => ?_) (fun h => ?_) <;> (try simp only [decide_eq_true_eq, decide_eq_false_iff_not] at h))
    rw [← e1]
    exact LoopI.same (ih (i + 1) _ _ (by omega) fun fr n' m' q1 q2 => hK fr n' m' (by omega) (by omega))

theorem join_loop2 {raw : List (Int × Int)} {a : PV} {blanks : List Int} {H : Nat → Option AO} {T : Nat → Option Nat} {K : Kt} (hraw : ∀ p ∈ raw, I64 p.1 ∧ I64 p.2) (hl : raw.length ≤ 9223372036854775807) (hbl : ∀ x ∈ blanks, I64 x) (hbll : blanks.length ≤ 9223372036854775807) :
    ∀ (d i n m : Nat), i + d = min raw.length 20 →
      (∀ fr n' m', n ≤ n' → m ≤ m' → fr 7 = some (.bool true) → fr 8 = some a → fr 12 = some (.str (gl (bs1 blanks) 0 (raw.take 20))) → K (.exit 2) ⟨fr, ⟨H, T, n', m'⟩⟩) →
      LoopV [1, 2, 7, 8, 12, 13] (pw cx lb_counterprooflaw02_ScanJoin_1) K [.lst 2 (raw.map pairP) none, .lst 1 (blanks.map intP) none, .bool true, a, .str (gl (bs1 blanks) 0 (raw.take i)), .int .i64 i] ⟨H, T, n, m⟩ := by
  intro d
  induction d with
  | zero =>
    intro i n m hi hK
    refine LoopV.round ?_
    have e : i = min raw.length 20 := by omega
    have e2 : raw.take i = raw.take 20 := by rw [e]; exact take_min30 raw 20
    rw [e2]
    repeat' first
      | simp (maxSteps := 3000000) (disch := omega) only [go_sem, ↓reduceIte, Nat.reduceEqDiff, Nat.reduceAdd, Nat.reduceLeDiff, Nat.le_refl, Int.reduceEq, Int.reduceLE, Int.reduceLT, Int.reduceNe, Int.reduceSub, Int.reduceAdd, Int.reduceMul, Int.reduceNeg, Int.reduceToNat, Nat.reduceMul, Nat.mul_one, ne_eq, not_true_eq_false, not_false_eq_true, w64, wu8, wu64, wi32, dec_t, dec_f]
      | (refine And.intro (by omega) ?_)
      | (refine gsplit_intro (fun h => ?_) (fun h => ?_) <;> (try simp only [decide_eq_true_eq, decide_eq_false_iff_not] at h))
    all_goals exact hK _ _ _ (Nat.le_refl _) (Nat.le_refl _) rfl rfl rfl
  | succ d ih =>
    intro i n m hi hK
    obtain ⟨x, hx⟩ : ∃ b, raw[i]? = some b := ⟨raw[i]'(by omega), by simp⟩
    have ex : elem (raw.map pairP) (i : Int) = pairP x := elem_at (by rw [Int.toNat_natCast]; exact hx)
    obtain ⟨hx1, hx2⟩ := hraw x (List.mem_of_getElem? hx)
    have hsl := gl_len (bs1_len blanks) (raw.take i) 0
    have hwl := wordI_len x.1 x.2
    have hti : (raw.take i).length = i := by rw [List.length_take]; omega
    rw [hti] at hsl
    have hb2 := bs1_len blanks i
    have e1 : gl (bs1 blanks) 0 (raw.take (i + 1)) = gl (bs1 blanks) 0 (raw.take i) ++ (wordI x.1 x.2).1 ++ bs1 blanks i := by rw [take_snoc hx, gl_snoc, hti, Nat.zero_add]
    have hbk : ∀ s, CallP cx 12 [.lst 1 (blanks.map intP) none, .int .i64 ((i : Int) + 1)] s (To (.ret (.str (bs1 blanks i))) s s.H s.T) := fun s => blank_ok (i := i + 1) hbl (by omega) hbll
    refine LoopV.round ?_
    repeat' first
      | simp (maxSteps := 3000000) (disch := omega) only [go_sem, ↓reduceIte, Nat.reduceEqDiff, Nat.reduceAdd, Nat.reduceLeDiff, Nat.le_refl, Int.reduceEq, Int.reduceLE, Int.reduceLT, Int.reduceNe, Int.reduceSub, Int.reduceAdd, Int.reduceMul, Int.reduceNeg, Int.reduceToNat, Nat.reduceMul, Nat.mul_one, ne_eq, not_true_eq_false, not_false_eq_true, w64, wu8, wu64, wi32, dec_t, dec_f, ex, pairP, List.length_append]
      | (refine CallP.into (word2_ok hx1 hx2) (fun n2 m2 hn2 hm2 => ?_); try dsimp only at hn2 hm2)
      | (refine CallP.into (hbk _) (fun n2 m2 hn2 hm2 => ?_); try dsimp only at hn2 hm2)
      | (refine And.intro (by omega) ?_)
      | (refine gsplit_intro (fun h => ?_) (fun h => ?_) <;> (try simp only [decide_eq_true_eq, decide_eq_false_iff_not] at h))
    rw [← e1]
    exact LoopI.same (ih (i + 1) _ _ (by omega) fun fr n' m' q1 q2 => hK fr n' m' (by omega) (by omega))

def shiftT (c : Int) (t : Tok) : Tok := ⟨t.kind, t.text, t.n, t.line + c⟩

theorem join_loop3 {A : List UInt8} {M W0 : List Tok} {both : PV} {q : Nat} {qm : Option Nat} {H : Nat → Option AO} {T : Nat → Option Nat} {K : Kt} (hA : A.length ≤ 100000) (hM : M.length ≤ 100) (hW : W0.length ≤ 100) (hln : ∀ t ∈ M, 0 ≤ t.line ∧ t.line ≤ 1000000) :
    ∀ (d i n m : Nat), i + d = M.length → Wf2 H T n m → q < m →
      (∀ fr s', Ext ⟨H, hset T q (some (W0.length + M.length)), n, m⟩ s' → fr 22 = some both → fr 25 = some (.lst 4 ((W0 ++ M.map (shiftT (feedsN A + 1))).map tokP) (some q)) → K (.exit 4) ⟨fr, s'⟩) →
      LoopV [8, 19, 22, 25, 26] (pw cx lb_counterprooflaw02_ScanJoin_0) K [.str A, .lst 4 (M.map tokP) qm, both, .lst 4 ((W0 ++ (M.take i).map (shiftT (feedsN A + 1))).map tokP) (some q), .int .i64 i] ⟨H, hset T q (some (W0.length + i)), n, m⟩ := by
  intro d
  induction d with
  | zero =>
    intro i n m hi hw hq hK
    have : i = M.length := by omega
    subst this
    rw [List.take_length]
    refine LoopV.round ?_
    repeat' first
      | simp (maxSteps := 3000000) (disch := omega) only [go_sem, ↓reduceIte, Nat.reduceEqDiff, Nat.reduceAdd, Nat.reduceLeDiff, Nat.le_refl, Int.reduceEq, Int.reduceLE, Int.reduceLT, Int.reduceNe, Int.reduceSub, Int.reduceAdd, Int.reduceMul, Int.reduceNeg, Int.reduceToNat, Nat.reduceMul, Nat.mul_one, ne_eq, not_true_eq_false, not_false_eq_true, w64, wu8, wu64, wi32, dec_t, dec_f, Int.lt_irrefl, decide_false]
      | (refine And.intro (by omega) ?_)
      | (refine gsplit_intro (fun h => ?_) (fun h => ?_) <;> (try simp only [decide_eq_true_eq, decide_eq_false_iff_not] at h))
    exact hK _ _ (Ext.refl _) rfl rfl
  | succ d ih =>
    intro i n m hi hw hq hK
    obtain ⟨x, hx⟩ : ∃ b, M[i]? = some b := ⟨M[i]'(by omega), by simp⟩
    have ex : elem (M.map tokP) (i : Int) = tokP x := elem_at (by rw [Int.toNat_natCast]; exact hx)
    obtain ⟨hx1, hx2⟩ := hln x (List.mem_of_getElem? hx)
    have hf := feedsN_le A
    have hwl : (W0 ++ (M.take i).map (shiftT (feedsN A + 1))).length = W0.length + i := by simp; omega
    have e1 : (W0 ++ (M.take (i + 1)).map (shiftT (feedsN A + 1))).map tokP = (W0 ++ (M.take i).map (shiftT (feedsN A + 1))).map tokP ++ [[.int .i64 x.kind, .str x.text, .int .i64 x.n, .int .i64 (x.line + feedsN A + 1)]] := by
      rw [take_snoc hx]; simp [shiftT, tokP, Int.add_assoc]
    refine LoopV.round ?_
    generalize hW1 : W0 ++ (M.take i).map (shiftT (feedsN A + 1)) = W1 at hwl e1 ⊢
    repeat' first
      | simp (maxSteps := 3000000) (disch := omega) only [go_sem, ↓reduceIte, Nat.reduceEqDiff, Nat.reduceAdd, Nat.reduceLeDiff, Nat.le_refl, Int.reduceEq, Int.reduceLE, Int.reduceLT, Int.reduceNe, Int.reduceSub, Int.reduceAdd, Int.reduceMul, Int.reduceNeg, Int.reduceToNat, Nat.reduceMul, Nat.mul_one, ne_eq, not_true_eq_false, not_false_eq_true, w64, wu8, wu64, wi32, dec_t, dec_f, ex, tokP, hwl]
      | (refine CallP.to (feeds_ok (by omega)) ?_)
      | (refine And.intro (by omega) ?_)
      | (refine gsplit_intro (fun h => ?_) (fun h => ?_) <;> (try simp only [decide_eq_true_eq, decide_eq_false_iff_not] at h))
    rw [← e1]
    refine LoopI.ext (s0 := ⟨H, hset T q (some (W0.length + (i + 1))), n, m⟩) ?_ ?_
    · refine ⟨?_, ?_, ?_, ?_⟩
      · first
          | (repeat' (first | exact Hle.refl _ | refine Hle.new _ (by first | exact hw.1 _ (Nat.le_refl _) | exact hw.1 _ (by simp only []; omega) | exact hw.1 _ (by omega)) ?_)); done
          | (intro j o h; simp only [hset_get] at h ⊢; (repeat' split at h) <;> (repeat' split) <;> first | exact h | (exfalso; omega) | (exfalso; have hj := hw.1 j (by first | omega | (simp only []; omega)); rw [hj] at h; cases h) | simp_all)
      · first
          | (repeat' (first | exact Hle.refl _ | refine Hle.new _ (by first | exact hw.2 _ (Nat.le_refl _) | exact hw.2 _ (by simp only []; omega) | exact hw.2 _ (by omega)) ?_)); done
          | (intro j o h; simp only [hset_get] at h ⊢; (repeat' split at h) <;> (repeat' split) <;> first | exact h | (exfalso; omega) | (exfalso; have hj := hw.2 j (by first | omega | (simp only []; omega)); rw [hj] at h; cases h) | simp_all)
      · first | omega | (simp only []; omega)
      · first | omega | (simp only []; omega)
    · exact ih (i + 1) _ _ (by omega) (hw.mono (by simp only []; omega) (by simp only []; omega)) (by simp only []; omega) fun fr s' hx => hK fr s' (hx.up (by simp only []; omega) (by simp only []; omega))

theorem scanJoin_ok {one two : List (Int × Int)} {blanks : List Int} {s : Hs} (h1 : ∀ p ∈ one, I64 p.1 ∧ I64 p.2) (hl1 : one.length ≤ 9223372036854775807) (h2 : ∀ p ∈ two, I64 p.1 ∧ I64 p.2) (hl2 : two.length ≤ 9223372036854775807) (hbl : ∀ x ∈ blanks, I64 x) (hbll : blanks.length ≤ 9223372036854775807) :
    CallP cx 5 [.lst 2 (one.map pairP) none, .lst 2 (two.map pairP) none, .lst 1 (blanks.map intP) none] s (To (.ret (.bool true)) s s.H s.T) := by
  refine call_to cx_ok chk_counterprooflaw02_ScanJoin rfl fun wd => ?_
  unfold callW fp_counterprooflaw02_ScanJoin
  repeat' first
    | simp (maxSteps := 3000000) (disch := omega) only [go_sem, ↓reduceIte, Nat.reduceEqDiff, Nat.reduceAdd, Nat.reduceLeDiff, Nat.le_refl, Int.reduceEq, Int.reduceLE, Int.reduceLT, Int.reduceNe, Int.reduceSub, Int.reduceAdd, Int.reduceMul, Int.reduceNeg, Int.reduceToNat, Nat.reduceMul, Nat.mul_one, ne_eq, not_true_eq_false, not_false_eq_true, w64, wu8, wu64, wi32, dec_t, dec_f]
    | (refine CallP.into (awake_ok) (fun n2 m2 hn2 hm2 => ?_); try dsimp only at hn2 hm2)
    | (refine And.intro (by omega) ?_)
    | (refine gsplit_intro (fun h => ?_) (fun h => ?_) <;> (try simp only [decide_eq_true_eq, decide_eq_false_iff_not] at h))
  refine join_loop1 (H := s.H) (T := s.T) h1 hl1 hbl hbll (min one.length 20) 0 n2 m2 (Nat.zero_add _) fun fr n3 m3 q1 q2 f1 f2 f7 f8 => ?_
  repeat' first
    | simp (maxSteps := 3000000) (disch := omega) only [go_sem, ↓reduceIte, Nat.reduceEqDiff, Nat.reduceAdd, Nat.reduceLeDiff, Nat.le_refl, Int.reduceEq, Int.reduceLE, Int.reduceLT, Int.reduceNe, Int.reduceSub, Int.reduceAdd, Int.reduceMul, Int.reduceNeg, Int.reduceToNat, Nat.reduceMul, Nat.mul_one, ne_eq, not_true_eq_false, not_false_eq_true, w64, wu8, wu64, wi32, dec_t, dec_f, f1, f2, f7, f8]
    | (refine And.intro (by omega) ?_)
    | (refine gsplit_intro (fun h => ?_) (fun h => ?_) <;> (try simp only [decide_eq_true_eq, decide_eq_false_iff_not] at h))
  refine join_loop2 (H := s.H) (T := s.T) h2 hl2 hbl hbll (min two.length 20) 0 n3 m3 (Nat.zero_add _) fun fr2 n4 m4 q3 q4 g7 g8 g12 => ?_
  generalize hr1 : one.take 20 = A at g8
  generalize hr2 : two.take 20 = B at g12
  have hA : A.length ≤ 20 := by rw [← hr1, List.length_take]; omega
  have hB : B.length ≤ 20 := by rw [← hr2, List.length_take]; omega
  have gA := gl_len (bs0_len blanks) A 0
  have gB := gl_len (bs1_len blanks) B 0
  have sA := gl_stp (bs0_blk blanks) A 0 1 [] []
  have sB := gl_stp (bs1_blk blanks) B 0 1 [] []
  have sAB := (gl_stp (bs0_blk blanks) A 0 1 [] ([10] ++ gl (bs1 blanks) 0 B)).trans ((blk_nl (gl (bs1 blanks) 0 B) _ _).trans (by have := gl_stp (bs1_blk blanks) B 0 (1 + glN (bs0 blanks) 0 A + 1) ([] ++ glT (bs0 blanks) 0 1 A) []; rw [List.append_nil] at this; exact this))
  rw [List.append_nil, List.nil_append] at sA sB
  rw [List.nil_append] at sAB
  obtain ⟨fa, ha⟩ := Stp.end sA
  obtain ⟨fb, hb⟩ := Stp.end sB
  obtain ⟨fc, hc⟩ := Stp.end sAB
  have lA := glT_length (bs0 blanks) A 0 1
  have lB := glT_length (bs1 blanks) B 0 1
  have hgA := glN_le (bs0_len blanks) A 0
  have hgpA := glN_ge (bs0 blanks) A 0
  have hgB := glN_le (bs1_len blanks) B 0
  have hgpB := glN_ge (bs1 blanks) B 0
  have hfA := gl_feeds (bs0 blanks) A 0
  generalize hL1 : glT (bs0 blanks) 0 1 A = L1 at ha lA hc
  generalize hL2 : glT (bs1 blanks) 0 1 B ++ [⟨5, [], 0, 1 + glN (bs1 blanks) 0 B⟩] = L2 at hb
  have hL2l : L2.length = B.length + 1 := by rw [← hL2]; simp [lB]
  have hline : ∀ t ∈ L2, 0 ≤ t.line ∧ t.line ≤ 1000000 := by
    intro t ht
    rw [← hL2] at ht
    rcases List.mem_append.1 ht with h | h
    · have := glT_line (bs1 blanks) (bs1_len blanks) B 0 1 t h
      omega
    · simp only [List.mem_singleton] at h
      subst h
      simp only
      omega
  have hboth : L1 ++ glT (bs1 blanks) 0 (1 + glN (bs0 blanks) 0 A + 1) B ++ [⟨5, [], 0, 1 + glN (bs0 blanks) 0 A + 1 + glN (bs1 blanks) 0 B⟩] = L1 ++ L2.map (shiftT (feedsN (gl (bs0 blanks) 0 A) + 1)) := by
    rw [hfA, ← hL2, List.map_append, List.append_assoc]
    congr 1
    rw [show 1 + glN (bs0 blanks) 0 A + 1 = 1 + (glN (bs0 blanks) 0 A + 1) by omega, glT_shift]
    simp [shiftT]; omega
  rw [hboth] at hc
  generalize hL3 : L1 ++ [⟨5, [], 0, 1 + glN (bs0 blanks) 0 A⟩] = L3 at ha
  have hL3l : L3.length = L1.length + 1 := by rw [← hL3]; simp
  have htake : L3.take L1.length = L1 := by rw [← hL3]; simp
  rw [← List.append_assoc] at hc
  generalize hS : gl (bs0 blanks) 0 A = S at gA ha hc g8 hfA
  generalize hS2 : gl (bs1 blanks) 0 B = S2 at gB hb hc g12
  have hSl : S.length ≤ 1000 := by omega
  have hS2l : S2.length ≤ 1000 := by omega
  generalize hL4 : L1 ++ L2.map (shiftT (feedsN S + 1)) = L4 at hc
  have hsame : sameB true L4 L4 = true := by
    simp only [sameB, Bool.and_eq_true, decide_eq_true_eq, List.all_eq_true, true_and]
    intro p hp
    have : p.1 = p.2 := by
      obtain ⟨i, hi⟩ := List.getElem?_of_mem hp
      rw [List.getElem?_zip_eq_some] at hi
      exact Option.some.inj (hi.1.symm.trans hi.2)
    rw [this]; simp [eqT]
  have hL4l : L4.length = L1.length + L2.length := by rw [← hL4]; simp
  repeat' first
    | simp (maxSteps := 3000000) (disch := omega) only [go_sem, ↓reduceIte, Nat.reduceEqDiff, Nat.reduceAdd, Nat.reduceLeDiff, Nat.le_refl, Int.reduceEq, Int.reduceLE, Int.reduceLT, Int.reduceNe, Int.reduceSub, Int.reduceAdd, Int.reduceMul, Int.reduceNeg, Int.reduceToNat, Nat.reduceMul, Nat.mul_one, ne_eq, not_true_eq_false, not_false_eq_true, w64, wu8, wu64, wi32, dec_t, dec_f, g7, g8, g12, SRes.pv, hL3l, List.length_append]
    | (refine CallP.into (scan_ok (by omega) ha) (fun n2 m2 hn2 hm2 => ?_); try dsimp only at hn2 hm2)
    | (refine CallP.into (scan_ok (by omega) hb) (fun n2 m2 hn2 hm2 => ?_); try dsimp only at hn2 hm2)
    | (refine CallP.into (scan_ok (by simp only [List.length_append, List.length_cons, List.length_nil]; omega) hc) (fun n2 m2 hn2 hm2 => ?_); try dsimp only at hn2 hm2)
    | (refine And.intro (by omega) ?_)
    | (refine gsplit_intro (fun h => ?_) (fun h => ?_) <;> (try simp only [decide_eq_true_eq, decide_eq_false_iff_not] at h))
  have hts : List.take ((((L1.length + 1 : Nat) : Int) - 1).toNat - 0) (L3.map tokP) = L1.map tokP := by
    rw [show (((L1.length + 1 : Nat) : Int) - 1).toNat - 0 = L1.length by omega, ← List.map_take, htake]
  rw [hts, List.length_map]
  have hfin : ∀ fr s' q, Ext s s' → Wd s → fr 22 = some (PV.lst 4 (L4.map tokP) none) → fr 25 = some (PV.lst 4 (L4.map tokP) q) →
      pw cx (.seq (.reg rt_counterprooflaw02_ScanJoin_26) .ret) (finK [RV.t 6] (ToLe (Out.ret (PV.bool true)) s s.H s.T)) ⟨fr, s'⟩ := by
    intro fr s' q hx wd g22 g25
    obtain ⟨H1, T1, n1, m1⟩ := s'
    repeat' first
      | simp (maxSteps := 3000000) (disch := omega) only [go_sem, ↓reduceIte, Nat.reduceEqDiff, Nat.reduceAdd, Nat.reduceLeDiff, Nat.le_refl, Int.reduceEq, Int.reduceLE, Int.reduceLT, Int.reduceNe, Int.reduceSub, Int.reduceAdd, Int.reduceMul, Int.reduceNeg, Int.reduceToNat, Nat.reduceMul, Nat.mul_one, ne_eq, not_true_eq_false, not_false_eq_true, w64, wu8, wu64, wi32, dec_t, dec_f, g22, g25]
      | (refine CallP.into (same_ok (by omega) (by omega)) (fun n5 m5 hn5 hm5 => ?_); try dsimp only at hn5 hm5; rw [hsame])
      | (refine And.intro (by omega) ?_)
      | (refine gsplit_intro (fun h => ?_) (fun h => ?_) <;> (try simp only [decide_eq_true_eq, decide_eq_false_iff_not] at h))
    have k1 := hx.n
    have k2 := hx.m
    simp only [] at k1 k2
    exact ToLe.ext (OutLe.refl _) ⟨hx.H, hx.T, by simp only []; omega, by simp only []; omega⟩
  have hwf : Wf2 s.H s.T n2 (m2 + 1) := wd.wf.mono (by omega) (by omega)
  refine ⟨by omega, by omega, fun he => ?_, fun hne => ?_⟩
  · have hL1 : L1 = [] := by simpa using he
    subst hL1
    obtain ⟨x, hx⟩ : ∃ b, L2[0]? = some b := ⟨L2[0]'(by omega), by simp⟩
    have ex : elem (L2.map tokP) 0 = tokP x := elem_at (i := 0) hx
    obtain ⟨hx1, hx2⟩ := hline x (List.mem_of_getElem? hx)
    have hf := feedsN_le S
    have e1 : [[PV.int .i64 x.kind, .str x.text, .int .i64 x.n, .int .i64 (x.line + feedsN S + 1)]] = (([] : List Tok) ++ (L2.take (0 + 1)).map (shiftT (feedsN S + 1))).map tokP := by
      rw [take_snoc hx]; simp [shiftT, tokP, Int.add_assoc]
    refine LoopV.round ?_
    repeat' first
      | simp (maxSteps := 3000000) (disch := omega) only [go_sem, ↓reduceIte, Nat.reduceEqDiff, Nat.reduceAdd, Nat.reduceLeDiff, Nat.le_refl, Int.reduceEq, Int.reduceLE, Int.reduceLT, Int.reduceNe, Int.reduceSub, Int.reduceAdd, Int.reduceMul, Int.reduceNeg, Int.reduceToNat, Nat.reduceMul, Nat.mul_one, ne_eq, not_true_eq_false, not_false_eq_true, w64, wu8, wu64, wi32, dec_t, dec_f, ex, tokP, hL2l]
      | (refine CallP.to (feeds_ok (by omega)) ?_)
      | (refine And.intro (by omega) ?_)
      | (refine gsplit_intro (fun h => ?_) (fun h => ?_) <;> (try simp only [decide_eq_true_eq, decide_eq_false_iff_not] at h))
    refine ⟨fun h => (by cases h), fun _ => ?_⟩
    rw [e1]
    refine LoopI.ext (s0 := ⟨s.H, hset s.T (m2 + 2) (some (([] : List Tok).length + (0 + 1))), n2, m2⟩) ?_ ?_
    · refine ⟨?_, ?_, ?_, ?_⟩
      · first
          | (repeat' (first | exact Hle.refl _ | refine Hle.new _ (by first | exact hwf.1 _ (Nat.le_refl _) | exact hwf.1 _ (by simp only []; omega) | exact hwf.1 _ (by omega)) ?_)); done
          | (intro j o h; simp only [hset_get] at h ⊢; (repeat' split at h) <;> (repeat' split) <;> first | exact h | (exfalso; omega) | (exfalso; have hj := hwf.1 j (by first | omega | (simp only []; omega)); rw [hj] at h; cases h) | simp_all)
      · first
          | (repeat' (first | exact Hle.refl _ | refine Hle.new _ (by first | exact hwf.2 _ (Nat.le_refl _) | exact hwf.2 _ (by simp only []; omega) | exact hwf.2 _ (by omega)) ?_)); done
          | (intro j o h; simp only [hset_get] at h ⊢; (repeat' split at h) <;> (repeat' split) <;> first | exact h | (exfalso; omega) | (exfalso; have hj := hwf.2 j (by first | omega | (simp only []; omega)); rw [hj] at h; cases h) | simp_all)
      · first | omega | (simp only []; omega)
      · first | omega | (simp only []; omega)
    · refine join_loop3 (W0 := []) (M := L2) (A := S) (q := m2 + 2) (H := s.H) (T := s.T) (by omega) (by omega) (by simp) hline (L2.length - 1) (0 + 1) _ _ (by omega) (hwf.mono (by simp only []; omega) (by simp only []; omega)) (by simp only []; omega) fun fr3 s3 hx3 k22 k25 => ?_
      rw [hL4] at k25
      have hx0 : Ext s s3 := by
        have k1 := hx3.n
        have k2 := hx3.m
        have k3 := hx3.T
        simp only [] at k1 k2
        refine ⟨hx3.H, Hle.trans ?_ k3, by omega, by omega⟩
        exact Hle.new _ (wd.2 _ (by omega)) (Hle.refl _)
      exact hfin fr3 s3 _ hx0 wd k22 k25
  · have h0 : L1.map tokP = (L1 ++ (L2.take 0).map (shiftT (feedsN S + 1))).map tokP := by simp
    rw [h0]
    refine join_loop3 (W0 := L1) (M := L2) (A := S) (q := m2) (H := s.H) (T := s.T) (by omega) (by omega) (by omega) hline L2.length 0 n2 (m2 + 1) (Nat.zero_add _) hwf (by omega) fun fr3 s3 hx3 k22 k25 => ?_
    rw [hL4] at k25
    have hx0 : Ext s s3 := by
      have k1 := hx3.n
      have k2 := hx3.m
      have k3 := hx3.T
      simp only [] at k1 k2
      refine ⟨hx3.H, Hle.trans ?_ k3, by omega, by omega⟩
      exact Hle.new _ (wd.2 _ (by omega)) (Hle.refl _)
    exact hfin fr3 s3 _ hx0 wd k22 k25
end Go.Proofs.YteapohlamngkpaaDoor
