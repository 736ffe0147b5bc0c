/-
  Layer 2: a token.
-/
import Derived.Test.YteapohlamngkpaaDoorScL
import Derived.Test.YteapohlamngkpaaDoorScP
namespace Go.Proofs.YteapohlamngkpaaDoor
open Go.Pv
attribute [local irreducible] Go.Pv.CallP Go.Pv.gsplit Go.Pv.ToLe Go.Pv.LoopV
set_option linter.unusedVariables false
set_option linter.unusedSimpArgs false
set_option maxRecDepth 100000
set_option maxHeartbeats 4000000

def spanL (kb : Int → Bool) (l : List UInt8) : Nat := ((C 0 l).takeWhile fun c => kb c.1).length

theorem spanL_lt {kb : Int → Bool} (hk : kb (-1) = false) (l : List UInt8) : spanL kb l < (C 0 l).length := by
  rcases Nat.lt_or_ge (spanL kb l) (C 0 l).length with h | h
  · exact h
  · exfalso
    have h2 : (C 0 l).takeWhile (fun c => kb c.1) = C 0 l := by
      apply (List.takeWhile_sublist _).eq_of_length_le
      exact h
    have h3 : ((-1 : Int), 0 + l.length) ∈ (C 0 l).takeWhile (fun c => kb c.1) := by rw [h2]; simp [C]
    have h4 := List.all_takeWhile (p := fun c : Int × Nat => kb c.1) (l := C 0 l)
    rw [List.all_eq_true] at h4
    have := h4 _ h3
    simp [hk] at this

theorem decL_ascii {b : UInt8} {l : List UInt8} (h : (decL (b :: l)).1 < 128) : decL (b :: l) = (b.toNat, 1) ∧ b.toNat < 128 := by
  unfold decL Utf8.decode at h ⊢
  have hb : ((ByteArray.mk (b :: l).toArray).get! (0 + 0)).toNat = b.toNat := by simp [ByteArray.get!]
  simp only [hb] at h ⊢
  split at h
  · rename_i h1; rw [if_pos h1]; exact ⟨rfl, h1⟩
  · exfalso
    repeat' split at h
    all_goals simp only [Utf8.runeError, ge_iff_le, Bool.and_eq_true, decide_eq_true_eq, beq_iff_eq] at *
    all_goals omega

theorem decL_low {b : UInt8} (h : b.toNat < 128) (l : List UInt8) : decL (b :: l) = (b.toNat, 1) := by
  unfold decL Utf8.decode
  have hb : ((ByteArray.mk (b :: l).toArray).get! (0 + 0)).toNat = b.toNat := by simp [ByteArray.get!]
  simp only [hb]
  rw [if_pos h]

/-- Characters of one byte, and their bytes. -/
theorem run_bytes {kb : Int → Bool} (hkb : ∀ r : Int, kb r = true → 0 ≤ r ∧ r < 128) : ∀ l : List UInt8, spanL kb l = (l.takeWhile fun b => kb b.toNat).length ∧ atL l (spanL kb l) = (l.takeWhile fun b => kb b.toNat).length
  | [] => by
    have h : kb (-1) = false := by
      cases hc : kb (-1) with
      | false => rfl
      | true => have := hkb _ hc; omega
    simp [spanL, C_nil, h, atL_zero]
  | b :: l => by
    have hm1 : kb (-1) = false := by
      cases hc : kb (-1) with
      | false => rfl
      | true => have := hkb _ hc; omega
    by_cases hb : kb (b.toNat : Int) = true
    · have hlow : b.toNat < 128 := by have := hkb _ hb; omega
      have hd := decL_low hlow l
      obtain ⟨h1, h2⟩ := run_bytes hkb l
      have hs : spanL kb (b :: l) = spanL kb l + 1 := by
        unfold spanL
        rw [C_cons, hd]
        simp only [List.drop_succ_cons, List.drop_zero, List.takeWhile_cons_of_pos (p := fun c : Int × Nat => kb c.1) (a := ((b.toNat : Int), 0)) hb, List.length_cons]
        rw [C_at, List.takeWhile_map, List.length_map]
        rfl
      have hlt := spanL_lt hm1 (b :: l)
      rw [hs] at hlt ⊢
      rw [atL_succ b l _ hlt, hd, List.takeWhile_cons_of_pos (p := fun b : UInt8 => kb b.toNat) hb]
      simp only [List.drop_succ_cons, List.drop_zero, List.length_cons, h2]
      omega
    · have hs : spanL kb (b :: l) = 0 := by
        unfold spanL
        rw [C_cons]
        have : ¬ kb ((decL (b :: l)).1 : Int) = true := by
          intro hc
          have h3 := hkb _ hc
          have h4 := decL_ascii (b := b) (l := l) (by omega)
          rw [h4.1] at hc
          exact hb hc
        rw [List.takeWhile_cons_of_neg (p := fun c : Int × Nat => kb c.1) this]
        rfl
      rw [hs, List.takeWhile_cons_of_neg (p := fun b : UInt8 => kb b.toNat) hb, atL_zero]
      exact ⟨rfl, rfl⟩

theorem letterB_low {r : Int} (h : letterB r = true) : 0 ≤ r ∧ r < 128 := by simp [letterB] at h; omega
theorem digitB_low {r : Int} (h : digitB r = true) : 0 ≤ r ∧ r < 128 := by simp [digitB] at h; omega
theorem partB_low {r : Int} (h : partB r = true) : 0 ≤ r ∧ r < 128 := by
  simp only [partB, Bool.or_eq_true] at h
  exact h.elim letterB_low digitB_low

def Sc.adv (x : Sc) (j : Nat) : Sc := ⟨x.text, x.cs, x.next + j, x.line, x.out⟩

theorem Sc.adv_peek (x : Sc) (j a : Nat) : (x.adv j).peek a = x.peek (j + a) := by simp [Sc.adv, Sc.peek, Nat.add_assoc]

def nfB (r : Int) : Bool := !decide (r = 10) && !decide (r = -1) && !decide (r = 65533)

theorem comment_loop {x : Sc} {pos p id : Nat} {ty : TypeId} {H : Nat → Option AO} {T : Nat → Option Nat} {n m : Nat} {K : Kt} (h : x.At pos)
    (hK : ∀ fr, pk (x.text.drop pos) (spanL nfB (x.text.drop pos)) ≠ 65533 → K (.exit 0) ⟨fr, ⟨hset H id (some (.cells ((x.adv (spanL nfB (x.text.drop pos))).cells p) ty false)), T, n, m⟩⟩)
    (hB : ∀ fr, pk (x.text.drop pos) (spanL nfB (x.text.drop pos)) = 65533 → fr 2 = some (.bool false) → K .ret ⟨fr, ⟨hset H id (some (.cells ((x.adv (spanL nfB (x.text.drop pos))).cells p) ty false)), T, n, m⟩⟩) :
    ∀ (d j : Nat), j + d = spanL nfB (x.text.drop pos) → LoopV [0] (pw cx lb_scan_scanner_comment_0) K [.ptr id 0] ⟨hset H id (some (.cells ((x.adv j).cells p) ty false)), T, n, m⟩ := by
  have hlt := spanL_lt (kb := nfB) rfl (x.text.drop pos)
  have hleft := h.left
  have hcs := h.cs_le
  have hsp := h.span nfB
  intro d
  induction d with
  | zero =>
    intro j hj
    have : j = spanL nfB (x.text.drop pos) := by omega
    subst this
    have hout := Sc.span_out (kb := nfB) rfl x
    rw [hsp] at hout
    have hp0 : (x.adv (spanL nfB (x.text.drop pos))).peek 0 = x.peek (spanL nfB (x.text.drop pos)) := by rw [Sc.adv_peek, Nat.add_zero]
    have hv : x.peek (spanL nfB (x.text.drop pos)) = 10 ∨ x.peek (spanL nfB (x.text.drop pos)) = -1 ∨ x.peek (spanL nfB (x.text.drop pos)) = 65533 := by
      have : nfB (x.peek (spanL nfB (x.text.drop pos))) = false := hout
      simp only [nfB, Bool.and_eq_false_iff, Bool.not_eq_false', decide_eq_true_eq] at this
      omega
    have hpk := h.peek (spanL nfB (x.text.drop pos))
    refine LoopV.round ?_
    rcases hv with hv | hv | hv
    · have hp1 := hp0.trans hv
      repeat' first
        | simp (maxSteps := 3000000) (disch := omega) only [go_sem, ↓reduceIte, Nat.reduceEqDiff, Nat.reduceAdd, Nat.reduceLeDiff, Nat.le_refl, Int.reduceEq, Int.reduceLE, Int.reduceLT, Int.reduceNe, Int.reduceSub, Int.reduceAdd, Int.reduceMul, Int.reduceNeg, Int.reduceToNat, Nat.reduceMul, Nat.mul_one, ne_eq, not_true_eq_false, not_false_eq_true, w64, wu8, wu64, wi32, dec_t, dec_f, hp1]
        | (refine CallP.to (peek_ok (x := x.adv (spanL nfB (x.text.drop pos))) (p := p) (ty := ty) (hset_same _ _ _) (by simp only [Sc.adv]; omega)) ?_)
        | (refine And.intro (by omega) ?_)
        | (refine gsplit_intro (fun h => ?_) (fun h => ?_) <;> (try simp only [decide_eq_true_eq, decide_eq_false_iff_not] at h))
      exact hK _ (by rw [← hpk, hv]; decide)
    · have hp1 := hp0.trans hv
      repeat' first
        | simp (maxSteps := 3000000) (disch := omega) only [go_sem, ↓reduceIte, Nat.reduceEqDiff, Nat.reduceAdd, Nat.reduceLeDiff, Nat.le_refl, Int.reduceEq, Int.reduceLE, Int.reduceLT, Int.reduceNe, Int.reduceSub, Int.reduceAdd, Int.reduceMul, Int.reduceNeg, Int.reduceToNat, Nat.reduceMul, Nat.mul_one, ne_eq, not_true_eq_false, not_false_eq_true, w64, wu8, wu64, wi32, dec_t, dec_f, hp1]
        | (refine CallP.to (peek_ok (x := x.adv (spanL nfB (x.text.drop pos))) (p := p) (ty := ty) (hset_same _ _ _) (by simp only [Sc.adv]; omega)) ?_)
        | (refine And.intro (by omega) ?_)
        | (refine gsplit_intro (fun h => ?_) (fun h => ?_) <;> (try simp only [decide_eq_true_eq, decide_eq_false_iff_not] at h))
      exact hK _ (by rw [← hpk, hv]; decide)
    · have hp1 := hp0.trans hv
      repeat' first
        | simp (maxSteps := 3000000) (disch := omega) only [go_sem, ↓reduceIte, Nat.reduceEqDiff, Nat.reduceAdd, Nat.reduceLeDiff, Nat.le_refl, Int.reduceEq, Int.reduceLE, Int.reduceLT, Int.reduceNe, Int.reduceSub, Int.reduceAdd, Int.reduceMul, Int.reduceNeg, Int.reduceToNat, Nat.reduceMul, Nat.mul_one, ne_eq, not_true_eq_false, not_false_eq_true, w64, wu8, wu64, wi32, dec_t, dec_f, hp1]
        | (refine CallP.to (peek_ok (x := x.adv (spanL nfB (x.text.drop pos))) (p := p) (ty := ty) (hset_same _ _ _) (by simp only [Sc.adv]; omega)) ?_)
        | (refine And.intro (by omega) ?_)
        | (refine gsplit_intro (fun h => ?_) (fun h => ?_) <;> (try simp only [decide_eq_true_eq, decide_eq_false_iff_not] at h))
      exact hB _ (by rw [← hpk, hv]) rfl
  | succ d ih =>
    intro j hj
    refine LoopV.round ?_
    have hin := Sc.span_in (kb := nfB) (x := x) (n := j) (by rw [hsp]; show j < spanL nfB _; omega)
    simp only [nfB, Bool.and_eq_true, Bool.not_eq_true', decide_eq_false_iff_not] at hin
    have hp0 : (x.adv j).peek 0 = x.peek j := by rw [Sc.adv_peek, Nat.add_zero]
    have hcell : (x.adv j).cells p = [.str x.text, .lst 2 (x.cs.map chP) none, .int .i64 ((x.next + j : Nat) : Int), .int .i64 x.line, .lst 4 (x.out.map tokP) (some p)] := rfl
    repeat' first
      | simp (maxSteps := 3000000) (disch := omega) only [go_sem, ↓reduceIte, Nat.reduceEqDiff, Nat.reduceAdd, Nat.reduceLeDiff, Nat.le_refl, Int.reduceEq, Int.reduceLE, Int.reduceLT, Int.reduceNe, Int.reduceSub, Int.reduceAdd, Int.reduceMul, Int.reduceNeg, Int.reduceToNat, Nat.reduceMul, Nat.mul_one, ne_eq, not_true_eq_false, not_false_eq_true, w64, wu8, wu64, wi32, dec_t, dec_f, hp0, hset_self, hcell]
      | (refine CallP.to (peek_ok (x := x.adv j) (p := p) (ty := ty) (by simp only [hset_same, hcell]) (by simp only [Sc.adv]; omega)) ?_)
      | (refine And.intro (by omega) ?_)
      | (refine gsplit_intro (fun h => ?_) (fun h => ?_) <;> (try simp only [decide_eq_true_eq, decide_eq_false_iff_not] at h))
    exact LoopI.same (ih (j + 1) (by omega))

theorem comment_ok {x : Sc} {pos p id : Nat} {ty : TypeId} {s : Hs} (h : x.At pos) (hs : s.H id = some (.cells (x.cells p) ty false)) :
    CallP cx 24 [.ptr id 0] s (To (.ret (.bool (!decide (pk (x.text.drop pos) (spanL nfB (x.text.drop pos)) = 65533)))) s (hset s.H id (some (.cells ((x.adv (spanL nfB (x.text.drop pos))).cells p) ty false))) s.T) := by
  refine call_to cx_ok chk_scan_scanner_comment rfl fun wd => ?_
  unfold callW fp_scan_scanner_comment
  have he : s = ⟨hset s.H id (some (.cells ((x.adv 0).cells p) ty false)), s.T, s.n, s.m⟩ := by
    rw [show (x.adv 0).cells p = x.cells p from rfl, hset_id hs]
  rw [he]
  repeat' first
    | simp (maxSteps := 3000000) (disch := omega) only [go_sem, ↓reduceIte, Nat.reduceEqDiff, Nat.reduceAdd, Nat.reduceLeDiff, Nat.le_refl, Int.reduceEq, Int.reduceLE, Int.reduceLT, Int.reduceNe, Int.reduceSub, Int.reduceAdd, Int.reduceMul, Int.reduceNeg, Int.reduceToNat, Nat.reduceMul, Nat.mul_one, ne_eq, not_true_eq_false, not_false_eq_true, w64, wu8, wu64, wi32, dec_t, dec_f]
    | (refine And.intro (by omega) ?_)
    | (refine gsplit_intro (fun h => ?_) (fun h => ?_) <;> (try simp only [decide_eq_true_eq, decide_eq_false_iff_not] at h))
  refine comment_loop h (fun fr hne => ?_) (fun fr he h2 => ?_) (spanL nfB (x.text.drop pos)) 0 (Nat.zero_add _)
  · repeat' first
      | simp (maxSteps := 3000000) (disch := omega) only [go_sem, ↓reduceIte, Nat.reduceEqDiff, Nat.reduceAdd, Nat.reduceLeDiff, Nat.le_refl, Int.reduceEq, Int.reduceLE, Int.reduceLT, Int.reduceNe, Int.reduceSub, Int.reduceAdd, Int.reduceMul, Int.reduceNeg, Int.reduceToNat, Nat.reduceMul, Nat.mul_one, ne_eq, not_true_eq_false, not_false_eq_true, w64, wu8, wu64, wi32, dec_t, dec_f, hne]
      | (refine And.intro (by omega) ?_)
      | (refine gsplit_intro (fun h => ?_) (fun h => ?_) <;> (try simp only [decide_eq_true_eq, decide_eq_false_iff_not] at h))
    exact ToLe.mk (OutLe.refl _) (by simp only [hset_self]; exact Hle.refl _) (Hle.refl _) (Nat.le_refl _) (Nat.le_refl _)
  · repeat' first
      | simp (maxSteps := 3000000) (disch := omega) only [go_sem, ↓reduceIte, Nat.reduceEqDiff, Nat.reduceAdd, Nat.reduceLeDiff, Nat.le_refl, Int.reduceEq, Int.reduceLE, Int.reduceLT, Int.reduceNe, Int.reduceSub, Int.reduceAdd, Int.reduceMul, Int.reduceNeg, Int.reduceToNat, Nat.reduceMul, Nat.mul_one, ne_eq, not_true_eq_false, not_false_eq_true, w64, wu8, wu64, wi32, dec_t, dec_f, he, h2]
      | (refine And.intro (by omega) ?_)
      | (refine gsplit_intro (fun h => ?_) (fun h => ?_) <;> (try simp only [decide_eq_true_eq, decide_eq_false_iff_not] at h))
    exact ToLe.mk (OutLe.refl _) (by simp only [hset_self]; exact Hle.refl _) (Hle.refl _) (Nat.le_refl _) (Nat.le_refl _)

/-- A token is taken. -/
theorem Sc.At.add_ok {x : Sc} {pos p id : Nat} {ty : TypeId} {s : Hs} (h : x.At pos) (hs : s.H id = some (.cells (x.cells p) ty false)) (hp : s.T p = some x.out.length) {k : Nat} (hk : k < (C 0 (x.text.drop pos)).length) (kind v : Int) :
    CallP cx 21 [.ptr id 0, .int .i64 kind, .int .i64 k, .int .i64 v] s
      (To (.ret (.tup [])) s (hset s.H id (some (.cells ((x.add kind v k).cells p) ty false))) (hset s.T p (some (x.add kind v k).out.length))) := by
  have hleft := h.left
  have hcs := h.cs_le
  have h0 := C_length_pos 0 (x.text.drop pos)
  obtain ⟨_, hl⟩ := C_drop k 0 _ hk
  rw [List.length_drop] at hl
  have := h.pos_le
  have ho := h.out
  refine Go.Proofs.YteapohlamngkpaaDoor.add_ok hs hp (by omega) (by omega) (by omega) (by omega) ?_ ?_
  · rw [h.at_ h0, h.at_ hk, atL_zero]; omega
  · rw [h.at_ hk]; omega

/-- The text of the first k characters. -/
def wd_ (l : List UInt8) (k : Nat) : List UInt8 := l.take (atL l k)

theorem sname_ok {x : Sc} {pos p id : Nat} {ty : TypeId} {s : Hs} (hA : x.At pos) (hs : s.H id = some (.cells (x.cells p) ty false)) (hp : s.T p = some x.out.length) {l : List UInt8} (hl : l = x.text.drop pos) {k : Nat} (hk : k = spanL partB l)
    {K : Out → Hs → Prop}
    (h1 : ∀ kind n m, kind = (if wordB (wd_ l k) then 2 else 1) → (wordB (wd_ l k) = true ∨ nameB (wd_ l k) = true) → s.n ≤ n → s.m ≤ m → K (.ret (.bool true)) ⟨hset s.H id (some (.cells ((x.add kind 0 k).cells p) ty false)), hset s.T p (some (x.add kind 0 k).out.length), n, m⟩)
    (h2 : ∀ n m, wordB (wd_ l k) = false → nameB (wd_ l k) = false → s.n ≤ n → s.m ≤ m → K (.ret (.bool false)) ⟨s.H, s.T, n, m⟩) :
    CallP cx 26 [.ptr id 0] s K := by
  have hlt := spanL_lt (kb := partB) rfl l
  subst hl
  have hleft := hA.left
  have hcs := hA.cs_le
  have hsp : x.span partB = spanL partB (x.text.drop pos) := hA.span partB
  rw [← hk] at hsp hlt
  have hlk : x.look k = wd_ (x.text.drop pos) k := hA.look hlt
  generalize hw : wd_ (x.text.drop pos) k = w at hlk h1 h2
  have h0 := C_length_pos 0 (x.text.drop pos)
  obtain ⟨_, hl⟩ := C_drop _ 0 _ hlt
  rw [List.length_drop] at hl
  have hpl := hA.pos_le
  have hlen := hA.len
  have hwl : w.length ≤ 100000 := by rw [← hw, wd_, List.length_take, List.length_drop]; omega
  have ha1 : x.at_ 0 ≤ x.at_ k := by rw [hA.at_ h0, hA.at_ hlt, atL_zero]; omega
  have ha2 : x.at_ k ≤ x.text.length := by rw [hA.at_ hlt]; omega
  refine call_ok cx_ok chk_scan_scanner_name rfl ?_
  unfold callW fp_scan_scanner_name
  repeat' first
    | simp (maxSteps := 3000000) only [go_sem, ↓reduceIte, Nat.reduceEqDiff, Nat.reduceAdd, Nat.reduceLeDiff, Nat.le_refl, Int.reduceEq, Int.reduceLE, Int.reduceLT, Int.reduceNe, Int.reduceSub, Int.reduceAdd, Int.reduceMul, Int.reduceNeg, Int.reduceToNat, Nat.reduceMul, Nat.mul_one, ne_eq, not_true_eq_false, not_false_eq_true, hsp, hlk]
    | (refine CallP.to (span_ok (x := x) (p := p) (ty := ty) (kb := partB) hs (by omega) (by omega) rfl (fun r => part_ok r _)) ?_)
    | (refine CallP.to (look_ok (x := x) (p := p) (ty := ty) hs (by omega) (by omega) (by omega) ha1 ha2) ?_)
    | (refine CallP.to (word_ok _ _) ?_)
    | (refine CallP.into (name_ok hwl) (fun n' m' hn' hm' => ?_))
    | (refine CallP.into (hA.add_ok (p := p) (ty := ty) (by exact hs) (by exact hp) hlt _ _) (fun n2 m2 hn2 hm2 => ?_))
    | (refine And.intro (by omega) ?_)
    | (refine gsplit_intro (fun h => ?_) (fun h => ?_) <;> (try simp only [decide_eq_true_eq, decide_eq_false_iff_not] at h))
  · exact h1 2 _ _ (by rw [if_pos h]) (Or.inl h) hn2 hm2
  · exact h2 _ _ (by assumption) (by simpa using h) hn' hm'
  · have hf : wordB w = false := by assumption
    exact h1 1 _ _ (by rw [if_neg (by simp [hf])]) (Or.inr (by simpa using h)) (Nat.le_trans hn' hn2) (Nat.le_trans hm' hm2)
end Go.Proofs.YteapohlamngkpaaDoor
