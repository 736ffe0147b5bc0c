/-
  Layer 2's law: first calls; ScanWords.
-/
import Derived.Test.YteapohlamngkpaaDoorLaC
namespace Go.Proofs.YteapohlamngkpaaDoor
open Go.Pv
attribute [local irreducible] Go.Pv.CallP Go.Pv.gsplit Go.Pv.ToLe Go.Pv.LoopV
set_option linter.unusedVariables false
set_option linter.unusedSimpArgs false
set_option maxRecDepth 100000
set_option maxHeartbeats 4000000

theorem aw_1 : scanR 20 [120, 49, 32, 61, 32, 39, 195, 169, 39, 59] 1 [] = some (.ok [⟨1, [120, 49], 0, 1⟩, ⟨4, [61], 0, 1⟩, ⟨3, [39, 195, 169, 39], 233, 1⟩, ⟨4, [59], 0, 1⟩, ⟨5, [], 0, 1⟩]) := by kernel_rfl
theorem aw_2 : scanR 20 [97, 10, 10, 63] 1 [] = some (.err 3) := by kernel_rfl
theorem aw_n : nameB [105, 110, 116] = false ∧ nameB [95, 97] = true ∧ wordB [105, 110, 116] = true := by decide +kernel
theorem aw_s : sameB true [⟨1, [120, 49], 0, 1⟩, ⟨4, [61], 0, 1⟩, ⟨3, [39, 195, 169, 39], 233, 1⟩, ⟨4, [59], 0, 1⟩, ⟨5, [], 0, 1⟩] [⟨1, [120, 49], 0, 1⟩, ⟨4, [61], 0, 1⟩, ⟨3, [39, 195, 169, 39], 233, 1⟩, ⟨4, [59], 0, 1⟩, ⟨5, [], 0, 1⟩] = true := by decide +kernel

theorem aw_same {p q : Option Nat} {s : Hs} : CallP cx 14 [
      PV.lst 4 [[PV.int IntKind.i64 1, PV.str [120, 49], PV.int IntKind.i64 0, PV.int IntKind.i64 1], [PV.int IntKind.i64 4, PV.str [61], PV.int IntKind.i64 0, PV.int IntKind.i64 1], [PV.int IntKind.i64 3, PV.str [39, 195, 169, 39], PV.int IntKind.i64 233, PV.int IntKind.i64 1], [PV.int IntKind.i64 4, PV.str [59], PV.int IntKind.i64 0, PV.int IntKind.i64 1], [PV.int IntKind.i64 5, PV.str [], PV.int IntKind.i64 0, PV.int IntKind.i64 1]] p,
      PV.lst 4 [[PV.int IntKind.i64 1, PV.str [120, 49], PV.int IntKind.i64 0, PV.int IntKind.i64 1], [PV.int IntKind.i64 4, PV.str [61], PV.int IntKind.i64 0, PV.int IntKind.i64 1], [PV.int IntKind.i64 3, PV.str [39, 195, 169, 39], PV.int IntKind.i64 233, PV.int IntKind.i64 1], [PV.int IntKind.i64 4, PV.str [59], PV.int IntKind.i64 0, PV.int IntKind.i64 1], [PV.int IntKind.i64 5, PV.str [], PV.int IntKind.i64 0, PV.int IntKind.i64 1]] q,
      .bool true] s (To (.ret (.bool true)) s s.H s.T) := by
  have := same_ok (a := [⟨1, [120, 49], 0, 1⟩, ⟨4, [61], 0, 1⟩, ⟨3, [39, 195, 169, 39], 233, 1⟩, ⟨4, [59], 0, 1⟩, ⟨5, [], 0, 1⟩]) (b := [⟨1, [120, 49], 0, 1⟩, ⟨4, [61], 0, 1⟩, ⟨3, [39, 195, 169, 39], 233, 1⟩, ⟨4, [59], 0, 1⟩, ⟨5, [], 0, 1⟩]) (p := p) (q := q) (lines := true) (s := s) (by decide) (by decide)
  rw [aw_s] at this
  simp only [List.map_cons, List.map_nil, tokP] at this
  exact this

theorem awake_ok {s : Hs} : CallP cx 7 [] s (To (.ret (.bool true)) s s.H s.T) := by
  obtain ⟨an1, an2, an3⟩ := aw_n
  refine call_to cx_ok chk_counterprooflaw02_awake rfl fun wd => ?_
  unfold callW fp_counterprooflaw02_awake
  repeat' first
    | simp (maxSteps := 3000000) (disch := omega) only [go_sem, ↓reduceIte, Nat.reduceEqDiff, Nat.reduceAdd, Nat.reduceLeDiff, Nat.le_refl, Int.reduceEq, Int.reduceLE, Int.reduceLT, Int.reduceNe, Int.reduceSub, Int.reduceAdd, Int.reduceMul, Int.reduceNeg, Int.reduceToNat, Nat.reduceMul, Nat.mul_one, ne_eq, not_true_eq_false, not_false_eq_true, w64, wu8, wu64, wi32, dec_t, dec_f, SRes.pv, List.map_cons, List.map_nil, tokP, an1, an2, an3]
    | (refine CallP.into (scan_ok (by decide) aw_1) (fun n2 m2 hn2 hm2 => ?_); try dsimp only at hn2 hm2)
    | (refine CallP.into (scan_ok (by decide) aw_2) (fun n2 m2 hn2 hm2 => ?_); try dsimp only at hn2 hm2)
    | (refine CallP.into (aw_same) (fun n2 m2 hn2 hm2 => ?_); try dsimp only at hn2 hm2)
    | (refine CallP.to (word_ok _ _) ?_)
    | (refine CallP.into (name_ok (by decide)) (fun n2 m2 hn2 hm2 => ?_); try dsimp only at hn2 hm2)
    | (refine And.intro (by omega) ?_)
    | (refine gsplit_intro (fun h => ?_) (fun h => ?_) <;> (try simp only [decide_eq_true_eq, decide_eq_false_iff_not] at h))
  refine ToLe.mk (OutLe.refl _) ?_ ?_ ?_ ?_
  · repeat' (first | exact Hle.refl _ | refine Hle.new _ (by first | exact wd.h0 _ | exact wd.1 _ (by simp only []; omega) | exact wd.1 _ (by omega)) ?_)
  · repeat' (first | exact Hle.refl _ | refine Hle.new _ (by first | exact wd.t0 _ | exact wd.2 _ (by simp only []; omega) | exact wd.2 _ (by omega)) ?_)
  · first | omega | (simp only []; omega)
  · first | omega | (simp only []; omega)


/-- The words with a blank behind each. -/
def spaced (l : List (Int × Int)) : List UInt8 := (l.map fun p => (wordI p.1 p.2).1 ++ [32]).flatten
def kindsOf (l : List (Int × Int)) : List Int := l.map fun p => (wordI p.1 p.2).2
def textsOf (l : List (Int × Int)) : List (List UInt8) := l.map fun p => (wordI p.1 p.2).1
def toksOf (line : Int) (l : List (Int × Int)) : List Tok := l.map fun p => ⟨(wordI p.1 p.2).2, (wordI p.1 p.2).1, wordV p.1 p.2, line⟩

theorem spaced_stp (line : Int) : ∀ (l : List (Int × Int)) (acc : List Tok), Stp (spaced l) line acc [] line (acc ++ toksOf line l)
  | [], acc => by simpa [spaced, toksOf] using Stp.refl [] line acc
  | p :: l, acc => by
    have h1 := (word_tk p.1 p.2).stp (l := [32] ++ spaced l) ⟨32, _, rfl, by decide⟩ line acc
    have h2 := blk_one (b := 32) (Or.inl rfl) (spaced l) line (acc ++ [⟨(wordI p.1 p.2).2, (wordI p.1 p.2).1, wordV p.1 p.2, line⟩])
    rw [Int.add_zero] at h2
    have h3 := spaced_stp line l (acc ++ [⟨(wordI p.1 p.2).2, (wordI p.1 p.2).1, wordV p.1 p.2, line⟩])
    have := (h1.trans h2).trans h3
    simpa [spaced, toksOf] using this

theorem numL_len : ∀ (d n : Nat), n < 10 ^ (d + 1) → (numL n).length ≤ d + 1
  | 0, n, h => by rw [numL_lt (by simpa using h)]; simp
  | d + 1, n, h => by
    by_cases h1 : n < 10
    · rw [numL_lt h1]; simp
    · rw [numL_ge h1]
      have := numL_len d (n / 10) (by rw [Nat.pow_succ] at h; omega)
      simp; omega

theorem getD_le {l : List (List UInt8)} {k c : Nat} (h : ∀ w ∈ l, w.length ≤ c) : (l.getD k []).length ≤ c := by
  rw [List.getD_eq_getElem?_getD]
  cases hc : l[k]? with
  | none => simp
  | some w => exact h w (List.mem_of_getElem? hc)

theorem wordI_len (n c : Int) : (wordI n c).1.length ≤ 20 := by
  have g1 := pickI_ge c (n := 1099511627776) (by decide)
  have g2 := pickI_lt c (n := 1099511627776) (by decide)
  unfold wordI
  split
  · exact Nat.le_trans (getD_le (c := 8) (by decide)) (by decide)
  split
  · exact Nat.le_trans (getD_le (c := 2) (by decide)) (by decide)
  split
  · exact Nat.le_trans (numL_len 12 _ (by omega)) (by decide)
  split
  · have := runeStr_length (161 + pickI c 8192)
    simp; omega
  · show (varL c).length ≤ 20
    unfold varL varB
    have := getD_le (l := varS) (k := (pickI c 312).toNat / 26) (c := 6) (by decide)
    simp only [List.length_cons]; omega

theorem spaced_len : ∀ l : List (Int × Int), (spaced l).length ≤ 21 * l.length
  | [] => by simp [spaced]
  | p :: l => by
    have h1 := wordI_len p.1 p.2
    have h2 := spaced_len l
    simp only [spaced, List.map_cons, List.flatten_cons, List.length_append, List.length_cons, List.length_nil] at h2 ⊢
    omega

theorem take_snoc {α : Type} {l : List α} {i : Nat} {x : α} (h : l[i]? = some x) : l.take (i + 1) = l.take i ++ [x] := by rw [List.take_add_one, h]; rfl

theorem take_min30 {α : Type} (l : List α) (k : Nat) : l.take (min l.length k) = l.take k := by
  rcases Nat.le_total l.length k with h | h
  · rw [Nat.min_eq_left h, List.take_length, List.take_of_length_le h]
  · rw [Nat.min_eq_right h]

theorem words_loop {raw : List (Int × Int)} {q1 q2 : Nat} {H : Nat → Option AO} {T : Nat → Option Nat} {K : Kt} (hraw : ∀ p ∈ raw, I64 p.1 ∧ I64 p.2) (hl : raw.length ≤ 9223372036854775807) (hq : q1 ≠ q2) :
    ∀ (d i n m : Nat), i + d = min raw.length 30 → Wf2 H T n m → q1 < m → q2 < m →
      (∀ fr s', Ext ⟨H, hset (hset T q1 (some (min raw.length 30))) q2 (some (min raw.length 30)), n, m⟩ s' → Wf2 s'.H s'.T s'.n s'.m → fr 3 = some (.bool true) → fr 4 = some (.str (spaced (raw.take 30))) → fr 5 = some (.lst 1 ((kindsOf (raw.take 30)).map intP) (some q1)) → fr 6 = some (.lst 1 ((textsOf (raw.take 30)).map strP) (some q2)) → K (.exit 0) ⟨fr, s'⟩) →
      LoopV [0, 3, 4, 5, 6, 7] (pw cx lb_counterprooflaw02_ScanWords_1) K [.lst 2 (raw.map pairP) none, .bool true, .str (spaced (raw.take i)), .lst 1 ((kindsOf (raw.take i)).map intP) (some q1), .lst 1 ((textsOf (raw.take i)).map strP) (some q2), .int .i64 i] ⟨H, hset (hset T q1 (some i)) q2 (some i), n, m⟩ := by
  intro d
  induction d with
  | zero =>
    intro i n m hi hw h1 h2 hK
    refine LoopV.round ?_
    have e : i = min raw.length 30 := by omega
    have e2 : raw.take i = raw.take 30 := by rw [e]; exact take_min30 raw 30
    have fin : ∀ b, K (.exit 0) ⟨hset (hset (hset (hset (hset (hset (hset (fun x => none) 7 (some (PV.int IntKind.i64 ↑i))) 6
                    (some (PV.lst 1 (List.map strP (textsOf (List.take i raw))) (some q2))))
                  5 (some (PV.lst 1 (List.map intP (kindsOf (List.take i raw))) (some q1))))
                4 (some (PV.str (spaced (List.take i raw)))))
              3 (some (PV.bool true)))
            0 (some (PV.lst 2 (List.map pairP raw) none)))
          22 b, ⟨H, hset (hset T q1 (some i)) q2 (some i), n, m⟩⟩ := fun b =>
      hK _ _ (by rw [e]; exact Ext.refl _) ((hw.setT h1 _).setT h2 _) rfl (by rw [← e2]; rfl) (by rw [← e2]; rfl) (by rw [← e2]; rfl)
    repeat' first
      | simp (maxSteps := 3000000) (disch := omega) only [go_sem, ↓reduceIte, Nat.reduceEqDiff, Nat.reduceAdd, Nat.reduceLeDiff, Nat.le_refl, Int.reduceEq, Int.reduceLE, Int.reduceLT, Int.reduceNe, Int.reduceSub, Int.reduceAdd, Int.reduceMul, Int.reduceNeg, Int.reduceToNat, Nat.reduceMul, Nat.mul_one, ne_eq, not_true_eq_false, not_false_eq_true, w64, wu8, wu64, wi32, dec_t, dec_f]
      | (refine And.intro (by omega) ?_)
      | (refine gsplit_intro (fun h => ?_) (fun h => ?_) <;> (try simp only [decide_eq_true_eq, decide_eq_false_iff_not] at h))
    all_goals exact fin _
  | succ d ih =>
    intro i n m hi hw h1 h2 hK
    obtain ⟨x, hx⟩ : ∃ b, raw[i]? = some b := ⟨raw[i]'(by omega), by simp⟩
    have ex : elem (raw.map pairP) (i : Int) = pairP x := elem_at (by rw [Int.toNat_natCast]; exact hx)
    obtain ⟨hx1, hx2⟩ := hraw x (List.mem_of_getElem? hx)
    have hsl := spaced_len (raw.take i)
    have hwl := wordI_len x.1 x.2
    have hti : (raw.take i).length = i := by rw [List.length_take]; omega
    rw [hti] at hsl
    have hk : (kindsOf (raw.take i)).length = i := by rw [kindsOf, List.length_map, hti]
    have ht : (textsOf (raw.take i)).length = i := by rw [textsOf, List.length_map, hti]
    have hq1 : (q1 = q2) = False := eq_false hq
    have hq2 : (q2 = q1) = False := eq_false (Ne.symm hq)
    have e1 : spaced (raw.take (i + 1)) = spaced (raw.take i) ++ (wordI x.1 x.2).1 ++ [32] := by rw [take_snoc hx]; simp [spaced]
    have e2 : (kindsOf (raw.take (i + 1))).map intP = (kindsOf (raw.take i)).map intP ++ [[.int .i64 (wordI x.1 x.2).2]] := by rw [take_snoc hx]; simp [kindsOf, intP]
    have e3 : (textsOf (raw.take (i + 1))).map strP = (textsOf (raw.take i)).map strP ++ [[.str (wordI x.1 x.2).1]] := by rw [take_snoc hx]; simp [textsOf, strP]
    refine LoopV.round ?_
    repeat' first
      | simp (maxSteps := 3000000) (disch := omega) only [go_sem, ↓reduceIte, Nat.reduceEqDiff, Nat.reduceAdd, Nat.reduceLeDiff, Nat.le_refl, Int.reduceEq, Int.reduceLE, Int.reduceLT, Int.reduceNe, Int.reduceSub, Int.reduceAdd, Int.reduceMul, Int.reduceNeg, Int.reduceToNat, Nat.reduceMul, Nat.mul_one, ne_eq, not_true_eq_false, not_false_eq_true, w64, wu8, wu64, wi32, dec_t, dec_f, ex, pairP, hk, ht, hq1, hq2, List.length_append]
      | (refine CallP.into (word2_ok hx1 hx2) (fun n2 m2 hn2 hm2 => ?_); try dsimp only at hn2 hm2)
      | (refine And.intro (by omega) ?_)
      | (refine gsplit_intro (fun h => ?_) (fun h => ?_) <;> (try simp only [decide_eq_true_eq, decide_eq_false_iff_not] at h))
    rw [← e1, ← e2, ← e3]
    refine LoopI.ext (s0 := ⟨H, hset (hset T q1 (some (i + 1))) q2 (some (i + 1)), n, m⟩) ?_ ?_
    · refine ⟨?_, ?_, ?_, ?_⟩
      · first
          | (repeat' (first | exact Hle.refl _ | refine Hle.new _ (by first | exact hw.1 _ (Nat.le_refl _) | exact hw.1 _ (by simp only []; omega) | exact hw.1 _ (by omega)) ?_)); done
          | (intro j o h; simp only [hset_get] at h ⊢; (repeat' split at h) <;> (repeat' split) <;> first | exact h | (exfalso; omega) | (exfalso; have hj := hw.1 j (by first | omega | (simp only []; omega)); rw [hj] at h; cases h) | simp_all)
      · first
          | (repeat' (first | exact Hle.refl _ | refine Hle.new _ (by first | exact hw.2 _ (Nat.le_refl _) | exact hw.2 _ (by simp only []; omega) | exact hw.2 _ (by omega)) ?_)); done
          | (intro j o h; simp only [hset_get] at h ⊢; (repeat' split at h) <;> (repeat' split) <;> first | exact h | (exfalso; omega) | (exfalso; have hj := hw.2 j (by first | omega | (simp only []; omega)); rw [hj] at h; cases h) | simp_all)
      · first | omega | (simp only []; omega)
      · first | omega | (simp only []; omega)
    · refine ih (i + 1) _ _ (by omega) (hw.mono (by simp only []; omega) (by simp only []; omega)) (by simp only []; omega) (by simp only []; omega) fun fr s' hx => hK fr s' (hx.up (by simp only []; omega) (by simp only []; omega))
end Go.Proofs.YteapohlamngkpaaDoor
