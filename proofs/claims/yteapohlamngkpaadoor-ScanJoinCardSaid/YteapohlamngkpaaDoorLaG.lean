/-
  Layer 2's law: words with blanks between; ScanTexts.
-/
import Derived.Test.YteapohlamngkpaaDoorLaD
namespace Go.Proofs.YteapohlamngkpaaDoor
open Go.Pv
attribute [local irreducible] Go.Pv.CallP Go.Pv.gsplit Go.Pv.ToLe Go.Pv.LoopV
set_option linter.unusedVariables false
set_option linter.unusedSimpArgs false
set_option maxRecDepth 100000
set_option maxHeartbeats 4000000

def gl (bl : Nat → List UInt8) : Nat → List (Int × Int) → List UInt8
  | _, [] => []
  | i, p :: l => (wordI p.1 p.2).1 ++ (bl i ++ gl bl (i + 1) l)
def glT (bl : Nat → List UInt8) : Nat → Int → List (Int × Int) → List Tok
  | _, _, [] => []
  | i, line, p :: l => ⟨(wordI p.1 p.2).2, (wordI p.1 p.2).1, wordV p.1 p.2, line⟩ :: glT bl (i + 1) (line + feedsN (bl i)) l
def glN (bl : Nat → List UInt8) : Nat → List (Int × Int) → Int
  | _, [] => 0
  | i, p :: l => feedsN (bl i) + glN bl (i + 1) l

theorem gl_snoc (bl : Nat → List UInt8) : ∀ (l : List (Int × Int)) (i : Nat) (p : Int × Int), gl bl i (l ++ [p]) = gl bl i l ++ (wordI p.1 p.2).1 ++ bl (i + l.length)
  | [], i, p => by simp [gl]
  | q :: l, i, p => by
    simp only [List.cons_append, gl, gl_snoc bl l, List.length_cons, List.append_assoc]
    rw [show i + 1 + l.length = i + (l.length + 1) by omega]

theorem gl_stp {bl : Nat → List UInt8} (hb : ∀ i, Blk (bl i) (feedsN (bl i)) ∧ OkB (bl i)) : ∀ (l : List (Int × Int)) (i : Nat) (line : Int) (acc : List Tok) (r : List UInt8), Stp (gl bl i l ++ r) line acc r (line + glN bl i l) (acc ++ glT bl i line l)
  | [], i, line, acc, r => by simpa [gl, glT, glN] using Stp.refl r line acc
  | p :: l, i, line, acc, r => by
    have h1 := (word_tk p.1 p.2).stp (l := bl i ++ (gl bl (i + 1) l ++ r)) ((hb i).2.append _) line acc
    have h2 := (hb i).1 (gl bl (i + 1) l ++ r) line (acc ++ [⟨(wordI p.1 p.2).2, (wordI p.1 p.2).1, wordV p.1 p.2, line⟩])
    have h3 := gl_stp hb l (i + 1) (line + feedsN (bl i)) (acc ++ [⟨(wordI p.1 p.2).2, (wordI p.1 p.2).1, wordV p.1 p.2, line⟩]) r
    have := (h1.trans h2).trans h3
    simpa [gl, glT, glN, Int.add_assoc] using this

theorem glT_texts (bl : Nat → List UInt8) : ∀ (l : List (Int × Int)) (i : Nat) (line : Int), (glT bl i line l).map Tok.text = textsOf l
  | [], _, _ => rfl
  | p :: l, i, line => by simp only [glT, List.map_cons, textsOf, glT_texts bl l]
theorem glT_length (bl : Nat → List UInt8) (l : List (Int × Int)) (i : Nat) (line : Int) : (glT bl i line l).length = l.length := by
  have := congrArg List.length (glT_texts bl l i line)
  simpa [textsOf] using this

theorem gl_len {bl : Nat → List UInt8} {c : Nat} (hb : ∀ i, (bl i).length ≤ c) : ∀ (l : List (Int × Int)) (i : Nat), (gl bl i l).length ≤ (20 + c) * l.length
  | [], _ => by simp [gl]
  | p :: l, i => by
    have h1 := wordI_len p.1 p.2
    have h2 := gl_len hb l (i + 1)
    have h3 := hb i
    simp only [gl, List.length_append, List.length_cons, Nat.mul_add] at h2 ⊢
    omega

def bl4S : List (List UInt8) := [[32], [10], [9, 13], [32, 32]]
def bl4 (blanks : List Int) (i : Nat) : List UInt8 := bl4S.getD (if i < blanks.length then (pickI (blanks.getD i 0) 4).toNat else 0) []

theorem bl4_blk (blanks : List Int) (i : Nat) : Blk (bl4 blanks i) (feedsN (bl4 blanks i)) ∧ OkB (bl4 blanks i) := by
  have mk : ∀ {b : List UInt8} {n : Int} {m : Nat} {c : UInt8} {r : List UInt8}, Blk b n → feedsN b = m → n = (m : Int) → b = c :: r → (c = 32 ∨ c = 10 ∨ c = 9) → Blk b (feedsN b) ∧ OkB b := by
    intro b n m c r h1 h2 h3 h4 h5
    rw [h2, ← h3]
    exact ⟨h1, c, r, h4, h5⟩
  have key : ∀ b ∈ bl4S, Blk b (feedsN b) ∧ OkB b := by
    intro b hb
    simp only [bl4S, List.mem_cons, List.not_mem_nil, or_false] at hb
    rcases hb with rfl | rfl | rfl | rfl
    · exact mk (m := 0) (blk_one (Or.inl rfl)) (by decide) rfl rfl (by decide)
    · exact mk (m := 1) blk_nl (by decide) rfl rfl (by decide)
    · exact mk (m := 0) (blkL (l := [9, 13]) (by decide)) (by decide) rfl rfl (by decide)
    · exact mk (m := 0) (blkL (l := [32, 32]) (by decide)) (by decide) rfl rfl (by decide)
  unfold bl4
  have h1 := pickI_ge (blanks.getD i 0) (n := 4) (by decide)
  have h2 := pickI_lt (blanks.getD i 0) (n := 4) (by decide)
  have hlt : (if i < blanks.length then (pickI (blanks.getD i 0) 4).toNat else 0) < bl4S.length := by show _ < 4; split <;> omega
  refine key _ ?_
  rw [List.getD_eq_getElem?_getD, List.getElem?_eq_getElem hlt]
  exact List.getElem_mem _
theorem bl4_len (blanks : List Int) (i : Nat) : (bl4 blanks i).length ≤ 2 := getD_le (by decide)

theorem texts_loop {raw : List (Int × Int)} {blanks : List Int} {H : Nat → Option AO} {T : Nat → Option Nat} {K : Kt} (hraw : ∀ p ∈ raw, I64 p.1 ∧ I64 p.2) (hl : raw.length ≤ 9223372036854775807) (hbl : ∀ x ∈ blanks, I64 x) (hbll : blanks.length ≤ 9223372036854775807) :
    ∀ (d i n m : Nat), i + d = min raw.length 20 → Wf2 H T n m →
      (∀ fr n' m', n ≤ n' → m ≤ m' → fr 5 = some (.bool true) → fr 6 = some (.str (gl (bl4 blanks) 0 (raw.take 20))) → fr 7 = some (.str ((textsOf (raw.take 20)).flatten)) → K (.exit 0) ⟨fr, ⟨H, T, n', m'⟩⟩) →
      LoopV [0, 1, 5, 6, 7, 8] (pw cx lb_counterprooflaw02_ScanTexts_1) K [.lst 2 (raw.map pairP) none, .lst 1 (blanks.map intP) none, .bool true, .str (gl (bl4 blanks) 0 (raw.take i)), .str ((textsOf (raw.take i)).flatten), .int .i64 i] ⟨H, T, n, m⟩ := by
  intro d
  induction d with
  | zero =>
    intro i n m hi hw hK
    refine LoopV.round ?_
    have e : i = min raw.length 20 := by omega
    have e2 : raw.take i = raw.take 20 := by rw [e]; exact take_min30 raw 20
    rw [e2]
    repeat' first
      | simp (maxSteps := 3000000) (disch := omega) only [go_sem, ↓reduceIte, Nat.reduceEqDiff, Nat.reduceAdd, Nat.reduceLeDiff, Nat.le_refl, Int.reduceEq, Int.reduceLE, Int.reduceLT, Int.reduceNe, Int.reduceSub, Int.reduceAdd, Int.reduceMul, Int.reduceNeg, Int.reduceToNat, Nat.reduceMul, Nat.mul_one, ne_eq, not_true_eq_false, not_false_eq_true, w64, wu8, wu64, wi32, dec_t, dec_f]
      | (refine And.intro (by omega) ?_)
      | (refine gsplit_intro (fun h => ?_) (fun h => ?_) <;> (try simp only [decide_eq_true_eq, decide_eq_false_iff_not] at h))
    all_goals exact hK _ _ _ (Nat.le_refl _) (Nat.le_refl _) rfl rfl rfl
  | succ d ih =>
    intro i n m hi hw hK
    obtain ⟨x, hx⟩ : ∃ b, raw[i]? = some b := ⟨raw[i]'(by omega), by simp⟩
    have ex : elem (raw.map pairP) (i : Int) = pairP x := elem_at (by rw [Int.toNat_natCast]; exact hx)
    obtain ⟨hx1, hx2⟩ := hraw x (List.mem_of_getElem? hx)
    have hsl := gl_len (bl4_len blanks) (raw.take i) 0
    have hwl := wordI_len x.1 x.2
    have hti : (raw.take i).length = i := by rw [List.length_take]; omega
    rw [hti] at hsl
    have hfl : ((textsOf (raw.take i)).flatten).length ≤ 20 * i := by
      have key : ∀ l : List (Int × Int), ((textsOf l).flatten).length ≤ 20 * l.length := by
        intro l
        induction l with
        | nil => simp [textsOf]
        | cons p l ih =>
          have := wordI_len p.1 p.2
          simp only [textsOf, List.map_cons, List.flatten_cons, List.length_append, List.length_cons] at ih ⊢
          omega
      have := key (raw.take i)
      rwa [hti] at this
    have e1 : gl (bl4 blanks) 0 (raw.take (i + 1)) = gl (bl4 blanks) 0 (raw.take i) ++ (wordI x.1 x.2).1 ++ bl4 blanks i := by rw [take_snoc hx, gl_snoc, hti, Nat.zero_add]
    have e2 : (textsOf (raw.take (i + 1))).flatten = (textsOf (raw.take i)).flatten ++ (wordI x.1 x.2).1 := by rw [take_snoc hx]; simp [textsOf]
    have h1 := pickI_ge (blanks.getD i 0) (n := 4) (by decide)
    have h2 := pickI_lt (blanks.getD i 0) (n := 4) (by decide)
    have hb2 := bl4_len blanks i
    refine LoopV.round ?_
    by_cases hi2 : i < blanks.length
    · obtain ⟨k, hk⟩ : ∃ k : Nat, pickI (blanks.getD i 0) 4 = k := ⟨(pickI (blanks.getD i 0) 4).toNat, by omega⟩
      have hbe : bl4 blanks i = bl4S.getD k [] := by unfold bl4; rw [if_pos hi2, hk, Int.toNat_natCast]
      have he2 := elem_strs bl4S k (by show k < 4; omega)
      rw [← hbe] at he2
      have he' : elem (blanks.map intP) (i : Int) = [.int .i64 (blanks.getD i 0)] := elem_ints blanks i hi2
      have hI : I64 (blanks.getD i 0) := by
        have : blanks.getD i 0 ∈ blanks := by
          rw [List.getD_eq_getElem?_getD, List.getElem?_eq_getElem hi2]
          exact List.getElem_mem _
        exact hbl _ this
      generalize hB : bl4 blanks i = B at he2 e1 hb2
      simp only [bl4S, List.map_cons, List.map_nil] at he2
      repeat' first
        | simp (maxSteps := 3000000) (disch := omega) only [go_sem, ↓reduceIte, Nat.reduceEqDiff, Nat.reduceAdd, Nat.reduceLeDiff, Nat.le_refl, Int.reduceEq, Int.reduceLE, Int.reduceLT, Int.reduceNe, Int.reduceSub, Int.reduceAdd, Int.reduceMul, Int.reduceNeg, Int.reduceToNat, Nat.reduceMul, Nat.mul_one, ne_eq, not_true_eq_false, not_false_eq_true, w64, wu8, wu64, wi32, dec_t, dec_f, ex, pairP, he2, he', hk, List.length_append]
        | (refine CallP.into (word2_ok hx1 hx2) (fun n2 m2 hn2 hm2 => ?_); try dsimp only at hn2 hm2)
        | (refine CallP.to (pick2_ok hI (by decide) (by decide)) ?_)
        | (refine And.intro (by omega) ?_)
        | (refine gsplit_intro (fun h => ?_) (fun h => ?_) <;> (try simp only [decide_eq_true_eq, decide_eq_false_iff_not] at h))
      rw [← e1, ← e2]
      refine LoopI.ext (s0 := ⟨H, T, n, m⟩) ?_ ?_
      · refine ⟨?_, ?_, ?_, ?_⟩
        · first
            | (repeat' (first | exact Hle.refl _ | refine Hle.new _ (by first | exact hw.1 _ (Nat.le_refl _) | exact hw.1 _ (by simp only []; omega) | exact hw.1 _ (by omega)) ?_)); done
            | (intro j o h; simp only [hset_get] at h ⊢; (repeat' split at h) <;> (repeat' split) <;> first | exact h | (exfalso; omega) | (exfalso; have hj := hw.1 j (by first | omega | (simp only []; omega)); rw [hj] at h; cases h) | simp_all)
        · first
            | (repeat' (first | exact Hle.refl _ | refine Hle.new _ (by first | exact hw.2 _ (Nat.le_refl _) | exact hw.2 _ (by simp only []; omega) | exact hw.2 _ (by omega)) ?_)); done
            | (intro j o h; simp only [hset_get] at h ⊢; (repeat' split at h) <;> (repeat' split) <;> first | exact h | (exfalso; omega) | (exfalso; have hj := hw.2 j (by first | omega | (simp only []; omega)); rw [hj] at h; cases h) | simp_all)
        · first | omega | (simp only []; omega)
        · first | omega | (simp only []; omega)
      · exact ih (i + 1) _ _ (by omega) (hw.mono (by simp only []; omega) (by simp only []; omega)) fun fr n' m' q1 q2 => hK fr n' m' (by simp only [] at q1 ⊢; omega) (by simp only [] at q2 ⊢; omega)
    · have hbe : bl4 blanks i = [32] := by unfold bl4; rw [if_neg hi2]; rfl
      rw [hbe] at e1
      repeat' first
        | simp (maxSteps := 3000000) (disch := omega) only [go_sem, ↓reduceIte, Nat.reduceEqDiff, Nat.reduceAdd, Nat.reduceLeDiff, Nat.le_refl, Int.reduceEq, Int.reduceLE, Int.reduceLT, Int.reduceNe, Int.reduceSub, Int.reduceAdd, Int.reduceMul, Int.reduceNeg, Int.reduceToNat, Nat.reduceMul, Nat.mul_one, ne_eq, not_true_eq_false, not_false_eq_true, w64, wu8, wu64, wi32, dec_t, dec_f, ex, pairP, List.length_append]
        | (refine CallP.into (word2_ok hx1 hx2) (fun n2 m2 hn2 hm2 => ?_); try dsimp only at hn2 hm2)
        | (refine And.intro (by omega) ?_)
        | (refine gsplit_intro (fun h => ?_) (fun h => ?_) <;> (try simp only [decide_eq_true_eq, decide_eq_false_iff_not] at h))
      rw [← e1, ← e2]
      refine LoopI.ext (s0 := ⟨H, T, n, m⟩) ?_ ?_
      · refine ⟨?_, ?_, ?_, ?_⟩
        · first
            | (repeat' (first | exact Hle.refl _ | refine Hle.new _ (by first | exact hw.1 _ (Nat.le_refl _) | exact hw.1 _ (by simp only []; omega) | exact hw.1 _ (by omega)) ?_)); done
            | (intro j o h; simp only [hset_get] at h ⊢; (repeat' split at h) <;> (repeat' split) <;> first | exact h | (exfalso; omega) | (exfalso; have hj := hw.1 j (by first | omega | (simp only []; omega)); rw [hj] at h; cases h) | simp_all)
        · first
            | (repeat' (first | exact Hle.refl _ | refine Hle.new _ (by first | exact hw.2 _ (Nat.le_refl _) | exact hw.2 _ (by simp only []; omega) | exact hw.2 _ (by omega)) ?_)); done
            | (intro j o h; simp only [hset_get] at h ⊢; (repeat' split at h) <;> (repeat' split) <;> first | exact h | (exfalso; omega) | (exfalso; have hj := hw.2 j (by first | omega | (simp only []; omega)); rw [hj] at h; cases h) | simp_all)
        · first | omega | (simp only []; omega)
        · first | omega | (simp only []; omega)
      · exact ih (i + 1) _ _ (by omega) (hw.mono (by simp only []; omega) (by simp only []; omega)) fun fr n' m' q1 q2 => hK fr n' m' (by simp only [] at q1 ⊢; omega) (by simp only [] at q2 ⊢; omega)

theorem texts_loop2 {L : List Tok} {q : Option Nat} {want : List UInt8} {s : Hs} {K : Kt} (hl : L.length ≤ 100) (ht : ∀ t ∈ L, t.text.length ≤ 100)
    (hK : ∀ fr, fr 5 = some (.bool true) → fr 7 = some (.str want) → fr 13 = some (.int .i64 0) → fr 15 = some (.str ((L.map Tok.text).flatten)) → K (.exit 2) ⟨fr, s⟩) :
    ∀ (d i : Nat), i + d = L.length → LoopV [5, 7, 12, 13, 15, 16] (pw cx lb_counterprooflaw02_ScanTexts_0) K [.bool true, .str want, .lst 4 (L.map tokP) q, .int .i64 0, .str (((L.take i).map Tok.text).flatten), .int .i64 i] s := by
  intro d
  induction d with
  | zero =>
    intro i hi
    have : i = L.length := by omega
    subst this
    rw [List.take_length]
    refine LoopV.round ?_
    repeat' first
      | simp (maxSteps := 3000000) (disch := omega) only [go_sem, ↓reduceIte, Nat.reduceEqDiff, Nat.reduceAdd, Nat.reduceLeDiff, Nat.le_refl, Int.reduceEq, Int.reduceLE, Int.reduceLT, Int.reduceNe, Int.reduceSub, Int.reduceAdd, Int.reduceMul, Int.reduceNeg, Int.reduceToNat, Nat.reduceMul, Nat.mul_one, ne_eq, not_true_eq_false, not_false_eq_true, w64, wu8, wu64, wi32, dec_t, dec_f, Int.lt_irrefl, decide_false]
      | (refine And.intro (by omega) ?_)
      | (refine gsplit_intro (fun h => ?_) (fun h => ?_) <;> (try simp only [decide_eq_true_eq, decide_eq_false_iff_not] at h))
    exact hK _ rfl rfl rfl rfl
  | succ d ih =>
    intro i hi
    obtain ⟨x, hx⟩ : ∃ b, L[i]? = some b := ⟨L[i]'(by omega), by simp⟩
    have ex : elem (L.map tokP) (i : Int) = tokP x := elem_at (by rw [Int.toNat_natCast]; exact hx)
    have hxl := ht x (List.mem_of_getElem? hx)
    have hfl : (((L.take i).map Tok.text).flatten).length ≤ 100 * i := by
      have key : ∀ l : List Tok, (∀ t ∈ l, t.text.length ≤ 100) → ((l.map Tok.text).flatten).length ≤ 100 * l.length := by
        intro l
        induction l with
        | nil => simp
        | cons p l ih =>
          intro h
          have h1 := h p (by simp)
          have h2 := ih fun t ht => h t (by simp [ht])
          simp only [List.map_cons, List.flatten_cons, List.length_append, List.length_cons]
          omega
      have := key (L.take i) fun t h => ht t (List.mem_of_mem_take h)
      rw [List.length_take] at this
      omega
    have e1 : ((L.take (i + 1)).map Tok.text).flatten = ((L.take i).map Tok.text).flatten ++ x.text := by rw [take_snoc hx]; simp
    have hih := ih (i + 1) (by omega)
    rw [e1] at hih
    refine LoopV.round ?_
    repeat' first
      | simp (maxSteps := 3000000) (disch := omega) only [go_sem, ↓reduceIte, Nat.reduceEqDiff, Nat.reduceAdd, Nat.reduceLeDiff, Nat.le_refl, Int.reduceEq, Int.reduceLE, Int.reduceLT, Int.reduceNe, Int.reduceSub, Int.reduceAdd, Int.reduceMul, Int.reduceNeg, Int.reduceToNat, Nat.reduceMul, Nat.mul_one, ne_eq, not_true_eq_false, not_false_eq_true, w64, wu8, wu64, wi32, dec_t, dec_f, ex, tokP]
      | (refine And.intro (by omega) ?_)
      | (refine gsplit_intro (fun h => ?_) (fun h => ?_) <;> (try simp only [decide_eq_true_eq, decide_eq_false_iff_not] at h))
    exact LoopI.same hih

theorem toks_textlen (bl : Nat → List UInt8) (i : Nat) (line : Int) (l : List (Int × Int)) : ∀ t ∈ glT bl i line l, t.text.length ≤ 100 := by
  intro t ht
  have : t.text ∈ (glT bl i line l).map Tok.text := List.mem_map_of_mem ht
  rw [glT_texts] at this
  simp only [textsOf, List.mem_map] at this
  obtain ⟨p, _, e⟩ := this
  rw [← e]
  exact Nat.le_trans (wordI_len p.1 p.2) (by decide)

theorem scanTexts_ok {raw : List (Int × Int)} {blanks : List Int} {s : Hs} (hraw : ∀ p ∈ raw, I64 p.1 ∧ I64 p.2) (hl : raw.length ≤ 9223372036854775807) (hbl : ∀ x ∈ blanks, I64 x) (hbll : blanks.length ≤ 9223372036854775807) :
    CallP cx 6 [.lst 2 (raw.map pairP) none, .lst 1 (blanks.map intP) none] s (To (.ret (.bool true)) s s.H s.T) := by
  refine call_to cx_ok chk_counterprooflaw02_ScanTexts rfl fun wd => ?_
  unfold callW fp_counterprooflaw02_ScanTexts
  repeat' first
    | simp (maxSteps := 3000000) (disch := omega) only [go_sem, ↓reduceIte, Nat.reduceEqDiff, Nat.reduceAdd, Nat.reduceLeDiff, Nat.le_refl, Int.reduceEq, Int.reduceLE, Int.reduceLT, Int.reduceNe, Int.reduceSub, Int.reduceAdd, Int.reduceMul, Int.reduceNeg, Int.reduceToNat, Nat.reduceMul, Nat.mul_one, ne_eq, not_true_eq_false, not_false_eq_true, w64, wu8, wu64, wi32, dec_t, dec_f]
    | (refine CallP.into (awake_ok) (fun n2 m2 hn2 hm2 => ?_); try dsimp only at hn2 hm2)
    | (refine And.intro (by omega) ?_)
    | (refine gsplit_intro (fun h => ?_) (fun h => ?_) <;> (try simp only [decide_eq_true_eq, decide_eq_false_iff_not] at h))
  refine texts_loop (H := s.H) (T := s.T) hraw hl hbl hbll (min raw.length 20) 0 n2 m2 (Nat.zero_add _) (wd.wf.mono hn2 hm2) fun fr n3 m3 h3 h4 f5 f6 f7 => ?_
  generalize hr : raw.take 20 = l at f6 f7
  have hll : l.length ≤ 20 := by rw [← hr, List.length_take]; omega
  have hgl := gl_len (bl4_len blanks) l 0
  have hst := gl_stp (bl4_blk blanks) l 0 1 [] []
  rw [List.append_nil, List.nil_append] at hst
  obtain ⟨f, hf⟩ := Stp.end hst
  have hlen := glT_length (bl4 blanks) l 0 1
  have htx := toks_textlen (bl4 blanks) 0 1 l
  have hfl : ((glT (bl4 blanks) 0 1 l ++ [(⟨5, [], 0, 1 + glN (bl4 blanks) 0 l⟩ : Tok)]).map Tok.text).flatten = (textsOf l).flatten := by
    rw [List.map_append, glT_texts, List.flatten_append]; simp
  generalize hL : glT (bl4 blanks) 0 1 l ++ [⟨5, [], 0, 1 + glN (bl4 blanks) 0 l⟩] = L at hf hfl
  have hLl : L.length ≤ 100 := by rw [← hL]; simp [hlen]; omega
  have hLt : ∀ t ∈ L, t.text.length ≤ 100 := by
    intro t ht
    rw [← hL] at ht
    rcases List.mem_append.1 ht with h | h
    · exact htx t h
    · simp at h; subst h; exact Nat.zero_le _
  repeat' first
    | simp (maxSteps := 3000000) (disch := omega) only [go_sem, ↓reduceIte, Nat.reduceEqDiff, Nat.reduceAdd, Nat.reduceLeDiff, Nat.le_refl, Int.reduceEq, Int.reduceLE, Int.reduceLT, Int.reduceNe, Int.reduceSub, Int.reduceAdd, Int.reduceMul, Int.reduceNeg, Int.reduceToNat, Nat.reduceMul, Nat.mul_one, ne_eq, not_true_eq_false, not_false_eq_true, w64, wu8, wu64, wi32, dec_t, dec_f, f5, f6, f7, SRes.pv]
    | (refine CallP.into (scan_ok (by omega) hf) (fun n2 m2 hn2 hm2 => ?_); try dsimp only at hn2 hm2)
    | (refine And.intro (by omega) ?_)
    | (refine gsplit_intro (fun h => ?_) (fun h => ?_) <;> (try simp only [decide_eq_true_eq, decide_eq_false_iff_not] at h))
  refine texts_loop2 (L := L) hLl hLt (fun fr2 g5 g7 g13 g15 => ?_) L.length 0 (Nat.zero_add _)
  rw [hfl] at g15
  repeat' first
    | simp (maxSteps := 3000000) (disch := omega) only [go_sem, ↓reduceIte, Nat.reduceEqDiff, Nat.reduceAdd, Nat.reduceLeDiff, Nat.le_refl, Int.reduceEq, Int.reduceLE, Int.reduceLT, Int.reduceNe, Int.reduceSub, Int.reduceAdd, Int.reduceMul, Int.reduceNeg, Int.reduceToNat, Nat.reduceMul, Nat.mul_one, ne_eq, not_true_eq_false, not_false_eq_true, w64, wu8, wu64, wi32, dec_t, dec_f, g5, g7, g13, g15]
    | (refine And.intro (by omega) ?_)
    | (refine gsplit_intro (fun h => ?_) (fun h => ?_) <;> (try simp only [decide_eq_true_eq, decide_eq_false_iff_not] at h))
  exact ToLe.same (by omega) (by omega)
end Go.Proofs.YteapohlamngkpaaDoor
