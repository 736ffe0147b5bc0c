/-
  Layer 2's law: ScanBlanks.
-/
import Derived.Test.YteapohlamngkpaaDoorLaG
namespace Go.Proofs.YteapohlamngkpaaDoor
open Go.Pv
attribute [local irreducible] Go.Pv.CallP Go.Pv.gsplit Go.Pv.ToLe Go.Pv.LoopV
set_option linter.unusedVariables false
set_option linter.unusedSimpArgs false
set_option maxRecDepth 100000
set_option maxHeartbeats 4000000

theorem glN_snoc (bl : Nat → List UInt8) : ∀ (l : List (Int × Int)) (i : Nat) (p : Int × Int), glN bl i (l ++ [p]) = glN bl i l + feedsN (bl (i + l.length))
  | [], i, p => by simp [glN]
  | q :: l, i, p => by
    simp only [List.cons_append, glN, glN_snoc bl l, List.length_cons]
    rw [show i + 1 + l.length = i + (l.length + 1) by omega, Int.add_assoc]
theorem glT_snoc (bl : Nat → List UInt8) : ∀ (l : List (Int × Int)) (i : Nat) (line : Int) (p : Int × Int), glT bl i line (l ++ [p]) = glT bl i line l ++ [⟨(wordI p.1 p.2).2, (wordI p.1 p.2).1, wordV p.1 p.2, line + glN bl i l⟩]
  | [], i, line, p => by simp [glT, glN]
  | q :: l, i, line, p => by
    simp only [List.cons_append, glT, glN, glT_snoc bl l, Int.add_assoc]
theorem glT_shift (bl : Nat → List UInt8) (c : Int) : ∀ (l : List (Int × Int)) (i : Nat) (line : Int), glT bl i (line + c) l = (glT bl i line l).map fun t => { t with line := t.line + c }
  | [], _, _ => rfl
  | p :: l, i, line => by
    simp only [glT, List.map_cons]
    rw [show line + c + (feedsN (bl i) : Int) = line + feedsN (bl i) + c by omega, glT_shift bl c l]
theorem glN_ge (bl : Nat → List UInt8) : ∀ (l : List (Int × Int)) (i : Nat), 0 ≤ glN bl i l
  | [], _ => Int.le_refl _
  | p :: l, i => by have := glN_ge bl l (i + 1); simp only [glN]; omega
theorem feedsN_le (b : List UInt8) : feedsN b ≤ b.length := List.length_filter_le _ _
theorem glN_le {bl : Nat → List UInt8} {c : Nat} (hb : ∀ i, (bl i).length ≤ c) : ∀ (l : List (Int × Int)) (i : Nat), glN bl i l ≤ c * l.length
  | [], _ => by simp [glN]
  | p :: l, i => by
    have h1 := glN_le hb l (i + 1)
    have h2 := feedsN_le (bl i)
    have h3 := hb i
    simp only [glN, List.length_cons]
    push_cast
    rw [Int.mul_add, Int.mul_one]
    omega
theorem glT_line (bl : Nat → List UInt8) {c : Nat} (hb : ∀ i, (bl i).length ≤ c) : ∀ (l : List (Int × Int)) (i : Nat) (line : Int), ∀ t ∈ glT bl i line l, line ≤ t.line ∧ t.line ≤ line + c * l.length
  | [], _, _, t, h => by cases h
  | p :: l, i, line, t, h => by
    simp only [glT, List.mem_cons] at h
    have h2 := feedsN_le (bl i)
    have h3 := hb i
    have hm : (c : Int) * ((p :: l).length : Int) = c * l.length + c := by simp only [List.length_cons]; push_cast; rw [Int.mul_add, Int.mul_one]
    have hp : 0 ≤ (c : Int) * (l.length : Int) := Int.mul_nonneg (by omega) (by omega)
    rw [hm]
    rcases h with rfl | h
    · simp only; omega
    · have := glT_line bl hb l (i + 1) _ t h
      omega

theorem blankL_len (l : List Int) (i : Nat) : (blankL l i).length ≤ 11 := by
  unfold blankL
  split
  · decide
  · exact getD_le (by decide)

def bs1 (blanks : List Int) (j : Nat) : List UInt8 := blankL blanks (j + 1)
theorem bs1_blk (blanks : List Int) (i : Nat) : Blk (bs1 blanks i) (feedsN (bs1 blanks i)) ∧ OkB (bs1 blanks i) := blankL_blk _ _
theorem bs1_len (blanks : List Int) (i : Nat) : (bs1 blanks i).length ≤ 11 := blankL_len _ _

theorem blanks_loop {raw : List (Int × Int)} {blanks : List Int} {q : Nat} {L0 : Int} {B0 : List UInt8} {H : Nat → Option AO} {T : Nat → Option Nat} {K : Kt} (hraw : ∀ p ∈ raw, I64 p.1 ∧ I64 p.2) (hl : raw.length ≤ 9223372036854775807) (hbl : ∀ x ∈ blanks, I64 x) (hbll : blanks.length ≤ 9223372036854775807)
    (hL0 : 0 ≤ L0 ∧ L0 ≤ 100) (hB0 : B0.length ≤ 11) :
    ∀ (d i n m : Nat), i + d = min raw.length 20 → Wf2 H T n m → q < m →
      (∀ fr s', Ext ⟨H, hset T q (some (min raw.length 20)), n, m⟩ s' → Wf2 s'.H s'.T s'.n s'.m → fr 5 = some (.bool true) → fr 6 = some (.str (spaced (raw.take 20))) → fr 7 = some (.str (B0 ++ gl (bs1 blanks) 0 (raw.take 20))) → fr 8 = some (.int .i64 (L0 + glN (bs1 blanks) 0 (raw.take 20))) →
        fr 9 = some (.lst 1 (((glT (bs1 blanks) 0 L0 (raw.take 20)).map Tok.line).map intP) (some q)) → K (.exit 0) ⟨fr, s'⟩) →
      LoopV [0, 1, 5, 6, 7, 8, 9, 10] (pw cx lb_counterprooflaw02_ScanBlanks_1) K [.lst 2 (raw.map pairP) none, .lst 1 (blanks.map intP) none, .bool true, .str (spaced (raw.take i)), .str (B0 ++ gl (bs1 blanks) 0 (raw.take i)), .int .i64 (L0 + glN (bs1 blanks) 0 (raw.take i)),
        .lst 1 (((glT (bs1 blanks) 0 L0 (raw.take i)).map Tok.line).map intP) (some q), .int .i64 i] ⟨H, hset T q (some i), n, m⟩ := by
  intro d
  induction d with
  | zero =>
    intro i n m hi hw hq hK
    refine LoopV.round ?_
    have e : i = min raw.length 20 := by omega
    have e2 : raw.take i = raw.take 20 := by rw [e]; exact take_min30 raw 20
    rw [e2]
    repeat' first
      | simp (maxSteps := 3000000) (disch := omega) only [go_sem, ↓reduceIte, Nat.reduceEqDiff, Nat.reduceAdd, Nat.reduceLeDiff, Nat.le_refl, Int.reduceEq, Int.reduceLE, Int.reduceLT, Int.reduceNe, Int.reduceSub, Int.reduceAdd, Int.reduceMul, Int.reduceNeg, Int.reduceToNat, Nat.reduceMul, Nat.mul_one, ne_eq, not_true_eq_false, not_false_eq_true, w64, wu8, wu64, wi32, dec_t, dec_f]
      | (refine And.intro (by omega) ?_)
      | (refine gsplit_intro (fun h => ?_) (fun h => ?_) <;> (try simp only [decide_eq_true_eq, decide_eq_false_iff_not] at h))
    all_goals exact hK _ _ (by rw [e]; exact Ext.refl _) (hw.setT hq _) rfl rfl rfl rfl rfl
  | succ d ih =>
    intro i n m hi hw hq hK
    obtain ⟨x, hx⟩ : ∃ b, raw[i]? = some b := ⟨raw[i]'(by omega), by simp⟩
    have ex : elem (raw.map pairP) (i : Int) = pairP x := elem_at (by rw [Int.toNat_natCast]; exact hx)
    obtain ⟨hx1, hx2⟩ := hraw x (List.mem_of_getElem? hx)
    have hsl := spaced_len (raw.take i)
    have hgl := gl_len (bs1_len blanks) (raw.take i) 0
    have hgn := glN_le (bs1_len blanks) (raw.take i) 0
    have hgp := glN_ge (bs1 blanks) (raw.take i) 0
    have hwl := wordI_len x.1 x.2
    have hti : (raw.take i).length = i := by rw [List.length_take]; omega
    rw [hti] at hsl hgl hgn
    have hb2 := bs1_len blanks i
    have hf2 := feedsN_le (bs1 blanks i)
    have hlt : (glT (bs1 blanks) 0 L0 (raw.take i)).length = i := by rw [glT_length, hti]
    have e1 : gl (bs1 blanks) 0 (raw.take (i + 1)) = gl (bs1 blanks) 0 (raw.take i) ++ (wordI x.1 x.2).1 ++ bs1 blanks i := by rw [take_snoc hx, gl_snoc, hti, Nat.zero_add]
    have e2 : spaced (raw.take (i + 1)) = spaced (raw.take i) ++ (wordI x.1 x.2).1 ++ [32] := by rw [take_snoc hx]; simp [spaced]
    have e3 : glN (bs1 blanks) 0 (raw.take (i + 1)) = glN (bs1 blanks) 0 (raw.take i) + feedsN (bs1 blanks i) := by rw [take_snoc hx, glN_snoc, hti, Nat.zero_add]
    have e4 : ((glT (bs1 blanks) 0 L0 (raw.take (i + 1))).map Tok.line).map intP = ((glT (bs1 blanks) 0 L0 (raw.take i)).map Tok.line).map intP ++ [[.int .i64 (L0 + glN (bs1 blanks) 0 (raw.take i))]] := by rw [take_snoc hx, glT_snoc]; simp [intP]
    have hih := ih (i + 1)
    rw [e1, e2, e3, e4] at hih
    have hbk : ∀ s, CallP cx 12 [.lst 1 (blanks.map intP) none, .int .i64 ((i : Int) + 1)] s (To (.ret (.str (bs1 blanks i))) s s.H s.T) := fun s => blank_ok (i := i + 1) hbl (by omega) hbll
    refine LoopV.round ?_
    repeat' first
      | simp (maxSteps := 3000000) (disch := omega) only [go_sem, ↓reduceIte, Nat.reduceEqDiff, Nat.reduceAdd, Nat.reduceLeDiff, Nat.le_refl, Int.reduceEq, Int.reduceLE, Int.reduceLT, Int.reduceNe, Int.reduceSub, Int.reduceAdd, Int.reduceMul, Int.reduceNeg, Int.reduceToNat, Nat.reduceMul, Nat.mul_one, ne_eq, not_true_eq_false, not_false_eq_true, w64, wu8, wu64, wi32, dec_t, dec_f, ex, pairP, hlt, List.length_append]
      | (refine CallP.into (word2_ok hx1 hx2) (fun n2 m2 hn2 hm2 => ?_); try dsimp only at hn2 hm2)
      | (refine CallP.into (hbk _) (fun n2 m2 hn2 hm2 => ?_); try dsimp only at hn2 hm2)
      | (refine CallP.to (feeds_ok (by omega)) ?_)
      | (refine And.intro (by omega) ?_)
      | (refine gsplit_intro (fun h => ?_) (fun h => ?_) <;> (try simp only [decide_eq_true_eq, decide_eq_false_iff_not] at h))
    have e1' : B0 ++ gl (bs1 blanks) 0 (raw.take (i + 1)) = B0 ++ gl (bs1 blanks) 0 (raw.take i) ++ (wordI x.1 x.2).1 ++ bs1 blanks i := by rw [e1]; simp only [List.append_assoc]
    have e3' : L0 + glN (bs1 blanks) 0 (raw.take (i + 1)) = L0 + glN (bs1 blanks) 0 (raw.take i) + feedsN (bs1 blanks i) := by rw [e3, Int.add_assoc]
    rw [← e1', ← e2, ← e3', ← e4]
    refine LoopI.ext (s0 := ⟨H, hset T q (some (i + 1)), n, m⟩) ?_ ?_
    · refine ⟨?_, ?_, ?_, ?_⟩
      · first
          | (repeat' (first | exact Hle.refl _ | refine Hle.new _ (by first | exact hw.1 _ (Nat.le_refl _) | exact hw.1 _ (by simp only []; omega) | exact hw.1 _ (by omega)) ?_)); done
          | (intro j o h; simp only [hset_get] at h ⊢; (repeat' split at h) <;> (repeat' split) <;> first | exact h | (exfalso; omega) | (exfalso; have hj := hw.1 j (by first | omega | (simp only []; omega)); rw [hj] at h; cases h) | simp_all)
      · first
          | (repeat' (first | exact Hle.refl _ | refine Hle.new _ (by first | exact hw.2 _ (Nat.le_refl _) | exact hw.2 _ (by simp only []; omega) | exact hw.2 _ (by omega)) ?_)); done
          | (intro j o h; simp only [hset_get] at h ⊢; (repeat' split at h) <;> (repeat' split) <;> first | exact h | (exfalso; omega) | (exfalso; have hj := hw.2 j (by first | omega | (simp only []; omega)); rw [hj] at h; cases h) | simp_all)
      · first | omega | (simp only []; omega)
      · first | omega | (simp only []; omega)
    · exact ih (i + 1) _ _ (by omega) (hw.mono (by simp only []; omega) (by simp only []; omega)) (by simp only []; omega) fun fr s' hx => hK fr s' (hx.up (by simp only []; omega) (by simp only []; omega))

theorem blanks_loop2 {W : List Int} {L : List Tok} {q1 q2 : Option Nat} {lines : PV} {s : Hs} {K : Kt} (hW : W.length ≤ 100) (hL : L.length = W.length + 1) (he : ∀ (i : Nat) (x : Int), W[i]? = some x → ∃ t, L[i]? = some t ∧ t.line = x)
    (hK : ∀ fr, fr 8 = some lines → fr 9 = some (.lst 1 (W.map intP) q1) → fr 17 = some (.lst 4 (L.map tokP) q2) → K (.exit 2) ⟨fr, s⟩) :
    ∀ (d i : Nat), i + d = W.length → LoopV [8, 9, 17, 20] (pw cx lb_counterprooflaw02_ScanBlanks_0) K [lines, .lst 1 (W.map intP) q1, .lst 4 (L.map tokP) q2, .int .i64 i] s := by
  intro d
  induction d with
  | zero =>
    intro i hi
    refine LoopV.round ?_
    repeat' first
      | simp (maxSteps := 3000000) (disch := omega) only [go_sem, ↓reduceIte, Nat.reduceEqDiff, Nat.reduceAdd, Nat.reduceLeDiff, Nat.le_refl, Int.reduceEq, Int.reduceLE, Int.reduceLT, Int.reduceNe, Int.reduceSub, Int.reduceAdd, Int.reduceMul, Int.reduceNeg, Int.reduceToNat, Nat.reduceMul, Nat.mul_one, ne_eq, not_true_eq_false, not_false_eq_true, w64, wu8, wu64, wi32, dec_t, dec_f]
      | (refine And.intro (by omega) ?_)
      | (refine gsplit_intro (fun h => ?_) (fun h => ?_) <;> (try simp only [decide_eq_true_eq, decide_eq_false_iff_not] at h))
    exact hK _ rfl rfl rfl
  | succ d ih =>
    intro i hi
    obtain ⟨x, hx⟩ : ∃ b, W[i]? = some b := ⟨W[i]'(by omega), by simp⟩
    obtain ⟨t, ht, htl⟩ := he i x hx
    have ex : elem (W.map intP) (i : Int) = intP x := elem_at (by rw [Int.toNat_natCast]; exact hx)
    have et : elem (L.map tokP) (i : Int) = tokP t := elem_at (by rw [Int.toNat_natCast]; exact ht)
    refine LoopV.round ?_
    repeat' first
      | simp (maxSteps := 3000000) (disch := omega) only [go_sem, ↓reduceIte, Nat.reduceEqDiff, Nat.reduceAdd, Nat.reduceLeDiff, Nat.le_refl, Int.reduceEq, Int.reduceLE, Int.reduceLT, Int.reduceNe, Int.reduceSub, Int.reduceAdd, Int.reduceMul, Int.reduceNeg, Int.reduceToNat, Nat.reduceMul, Nat.mul_one, ne_eq, not_true_eq_false, not_false_eq_true, w64, wu8, wu64, wi32, dec_t, dec_f, ex, et, intP, tokP, htl, hL]
      | (refine And.intro (by omega) ?_)
      | (refine gsplit_intro (fun h => ?_) (fun h => ?_) <;> (try simp only [decide_eq_true_eq, decide_eq_false_iff_not] at h))
    exact LoopI.same (ih (i + 1) (by omega))

theorem sameB_false (bl : Nat → List UInt8) : ∀ (l : List (Int × Int)) (i : Nat) (line line' e e' : Int), sameB false (toksOf line l ++ [⟨5, [], 0, e⟩]) (glT bl i line' l ++ [⟨5, [], 0, e'⟩]) = true
  | [], i, line, line', e, e' => by simp [sameB, toksOf, glT, eqT]
  | p :: l, i, line, line', e, e' => by
    have := sameB_false bl l (i + 1) line (line' + feedsN (bl i)) e e'
    simp only [sameB, Bool.and_eq_true, decide_eq_true_eq, List.length_append, List.length_cons, List.length_nil] at this ⊢
    obtain ⟨h1, h2⟩ := this
    simp only [toksOf, List.map_cons, glT, List.cons_append, List.zip_cons_cons, List.all_cons, List.length_cons, Bool.and_eq_true]
    refine ⟨?_, ?_, h2⟩
    · simp only [toksOf] at h1; omega
    · simp [eqT]

theorem scanBlanks_ok {raw : List (Int × Int)} {blanks : List Int} {s : Hs} (hraw : ∀ p ∈ raw, I64 p.1 ∧ I64 p.2) (hl : raw.length ≤ 9223372036854775807) (hbl : ∀ x ∈ blanks, I64 x) (hbll : blanks.length ≤ 9223372036854775807) :
    CallP cx 4 [.lst 2 (raw.map pairP) none, .lst 1 (blanks.map intP) none] s (To (.ret (.bool true)) s s.H s.T) := by
  have hb0 := blankL_len blanks 0
  have hf0 := feedsN_le (blankL blanks 0)
  have hbk : ∀ s, CallP cx 12 [.lst 1 (blanks.map intP) none, .int .i64 0] s (To (.ret (.str (blankL blanks 0))) s s.H s.T) := fun s => blank_ok (i := 0) hbl (by omega) hbll
  refine call_to cx_ok chk_counterprooflaw02_ScanBlanks rfl fun wd => ?_
  unfold callW fp_counterprooflaw02_ScanBlanks
  repeat' first
    | simp (maxSteps := 3000000) (disch := omega) only [go_sem, ↓reduceIte, Nat.reduceEqDiff, Nat.reduceAdd, Nat.reduceLeDiff, Nat.le_refl, Int.reduceEq, Int.reduceLE, Int.reduceLT, Int.reduceNe, Int.reduceSub, Int.reduceAdd, Int.reduceMul, Int.reduceNeg, Int.reduceToNat, Nat.reduceMul, Nat.mul_one, ne_eq, not_true_eq_false, not_false_eq_true, w64, wu8, wu64, wi32, dec_t, dec_f]
    | (refine CallP.into (awake_ok) (fun n2 m2 hn2 hm2 => ?_); try dsimp only at hn2 hm2)
    | (refine CallP.into (hbk _) (fun n2 m2 hn2 hm2 => ?_); try dsimp only at hn2 hm2)
    | (refine CallP.to (feeds_ok (by omega)) ?_)
    | (refine And.intro (by omega) ?_)
    | (refine gsplit_intro (fun h => ?_) (fun h => ?_) <;> (try simp only [decide_eq_true_eq, decide_eq_false_iff_not] at h))
  have e0 : PV.str (blankL blanks 0) = .str (blankL blanks 0 ++ gl (bs1 blanks) 0 (raw.take 0)) := by simp [gl]
  have e1 : (1 : Int) + feedsN (blankL blanks 0) = 1 + feedsN (blankL blanks 0) + glN (bs1 blanks) 0 (raw.take 0) := by simp [glN]
  rw [e0, e1]
  refine blanks_loop (q := m2) (L0 := 1 + feedsN (blankL blanks 0)) (B0 := blankL blanks 0) (H := s.H) (T := s.T) hraw hl hbl hbll (by omega) hb0 (min raw.length 20) 0 n2 (m2 + 1) (Nat.zero_add _) (wd.wf.mono (by omega) (by omega)) (by omega) fun fr s' hx hw1 f5 f6 f7 f8 f9 => ?_
  generalize hr : raw.take 20 = l at f6 f7 f8 f9
  have hll : l.length ≤ 20 := by rw [← hr, List.length_take]; omega
  have hsl := spaced_len l
  have hgl := gl_len (bs1_len blanks) l 0
  have hgn := glN_le (bs1_len blanks) l 0
  have hgp := glN_ge (bs1 blanks) l 0
  have hx0 : Ext s s' := by
    have h1 := hx.n
    have h2 := hx.m
    have h3 := hx.T
    simp only [] at h1 h2
    refine ⟨hx.H, Hle.trans ?_ h3, by omega, by omega⟩
    exact Hle.new _ (wd.2 _ (by omega)) (Hle.refl _)
  obtain ⟨H1, T1, n1, m1⟩ := s'
  obtain ⟨fa, ha⟩ := Stp.end (spaced_stp 1 l [])
  rw [List.nil_append] at ha
  have hst := ((blankL_blk blanks 0).1 (gl (bs1 blanks) 0 l) 1 []).trans (by have := gl_stp (bs1_blk blanks) l 0 (1 + feedsN (blankL blanks 0)) [] []; rw [List.append_nil] at this; exact this)
  rw [List.nil_append] at hst
  obtain ⟨fb, hb⟩ := Stp.end hst
  have hsame := sameB_false (bs1 blanks) l 0 1 (1 + feedsN (blankL blanks 0)) 1 (1 + feedsN (blankL blanks 0) + glN (bs1 blanks) 0 l)
  have ltk : (toksOf 1 l).length = l.length := by simp [toksOf]
  have lgl := glT_length (bs1 blanks) l 0 (1 + feedsN (blankL blanks 0))
  generalize hL1 : toksOf 1 l ++ [⟨5, [], 0, 1⟩] = L1 at ha hsame
  have hL1l : L1.length = l.length + 1 := by rw [← hL1]; simp [ltk]
  generalize hW : (glT (bs1 blanks) 0 (1 + feedsN (blankL blanks 0)) l).map Tok.line = W at f9
  have hWl : W.length = l.length := by rw [← hW]; simp [lgl]
  generalize hL2 : glT (bs1 blanks) 0 (1 + feedsN (blankL blanks 0)) l ++ [⟨5, [], 0, 1 + feedsN (blankL blanks 0) + glN (bs1 blanks) 0 l⟩] = L2 at hb hsame
  have hL2l : L2.length = W.length + 1 := by rw [← hL2, hWl]; simp [lgl]
  have he : ∀ (i : Nat) (x : Int), W[i]? = some x → ∃ t, L2[i]? = some t ∧ t.line = x := by
    intro i x h
    rw [← hW, List.getElem?_map] at h
    obtain ⟨t, h1, h2⟩ := Option.map_eq_some_iff.1 h
    refine ⟨t, ?_, h2⟩
    rw [← hL2, List.getElem?_append_left (List.getElem?_eq_some_iff.1 h1).1]; exact h1
  have hlast : elem (L2.map tokP) (W.length : Int) = tokP ⟨5, [], 0, 1 + feedsN (blankL blanks 0) + glN (bs1 blanks) 0 l⟩ :=
    elem_at (by rw [Int.toNat_natCast, ← hL2, List.getElem?_append_right (by omega)]; simp [hWl, lgl])
  repeat' first
    | simp (maxSteps := 3000000) (disch := omega) only [go_sem, ↓reduceIte, Nat.reduceEqDiff, Nat.reduceAdd, Nat.reduceLeDiff, Nat.le_refl, Int.reduceEq, Int.reduceLE, Int.reduceLT, Int.reduceNe, Int.reduceSub, Int.reduceAdd, Int.reduceMul, Int.reduceNeg, Int.reduceToNat, Nat.reduceMul, Nat.mul_one, ne_eq, not_true_eq_false, not_false_eq_true, w64, wu8, wu64, wi32, dec_t, dec_f, f5, f6, f7, f8, f9, SRes.pv]
    | (refine CallP.into (scan_ok (by omega) ha) (fun n2 m2 hn2 hm2 => ?_); try dsimp only at hn2 hm2)
    | (refine CallP.into (scan_ok (by simp only [List.length_append]; omega) hb) (fun n2 m2 hn2 hm2 => ?_); try dsimp only at hn2 hm2)
    | (refine CallP.into (same_ok (by omega) (by omega)) (fun n5 m5 hn5 hm5 => ?_); try dsimp only at hn5 hm5; rw [hsame])
    | (refine And.intro (by omega) ?_)
    | (refine gsplit_intro (fun h => ?_) (fun h => ?_) <;> (try simp only [decide_eq_true_eq, decide_eq_false_iff_not] at h))
  refine blanks_loop2 (by omega) hL2l he (fun fr2 g8 g9 g17 => ?_) W.length 0 (Nat.zero_add _)
  repeat' first
    | simp (maxSteps := 3000000) (disch := omega) only [go_sem, ↓reduceIte, Nat.reduceEqDiff, Nat.reduceAdd, Nat.reduceLeDiff, Nat.le_refl, Int.reduceEq, Int.reduceLE, Int.reduceLT, Int.reduceNe, Int.reduceSub, Int.reduceAdd, Int.reduceMul, Int.reduceNeg, Int.reduceToNat, Nat.reduceMul, Nat.mul_one, ne_eq, not_true_eq_false, not_false_eq_true, w64, wu8, wu64, wi32, dec_t, dec_f, g8, g9, g17, hlast, tokP, hL2l]
    | (refine And.intro (by omega) ?_)
    | (refine gsplit_intro (fun h => ?_) (fun h => ?_) <;> (try simp only [decide_eq_true_eq, decide_eq_false_iff_not] at h))
  have k1 := hx0.n
  have k2 := hx0.m
  simp only [] at k1 k2
  exact ToLe.ext (OutLe.refl _) ⟨hx0.H, hx0.T, by simp only []; omega, by simp only []; omega⟩
end Go.Proofs.YteapohlamngkpaaDoor
