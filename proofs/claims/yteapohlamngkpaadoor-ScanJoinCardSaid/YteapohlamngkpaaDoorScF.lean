/-
  Layer 2: what a text's beginning is; one step.
-/
import Derived.Test.YteapohlamngkpaaDoorScE
namespace Go.Proofs.YteapohlamngkpaaDoor
open Go.Pv
attribute [local irreducible] Go.Pv.CallP Go.Pv.gsplit Go.Pv.ToLe Go.Pv.LoopV
set_option linter.unusedVariables false
set_option linter.unusedSimpArgs false
set_option maxRecDepth 100000
set_option maxHeartbeats 4000000

inductive Act where
  | go (k : Nat) (nl : Int)
  | tok (kind : Int) (k : Nat) (n : Int)
  | bad
  | huge

def act (l : List UInt8) : Act :=
  if pk l 0 = 10 then .go 1 1
  else if pk l 0 = 32 ∨ pk l 0 = 9 ∨ pk l 0 = 13 then .go 1 0
  else if pk l 0 = 47 ∧ pk l 1 = 47 then (if pk l (spanL nfB l) = 65533 then .bad else .go (spanL nfB l) 0)
  else if letterB (pk l 0) = true then (if wordB (wd_ l (spanL partB l)) = true then .tok 2 (spanL partB l) 0 else if nameB (wd_ l (spanL partB l)) = true then .tok 1 (spanL partB l) 0 else .bad)
  else if digitB (pk l 0) = true then (if 9223372036854775807 < decVal (wd_ l (spanL digitB l)) then .huge else if 1 < spanL digitB l ∧ byteAt (wd_ l (spanL digitB l)) 0 = 48 then .bad else .tok 3 (spanL digitB l) (decVal (wd_ l (spanL digitB l))))
  else if pk l 0 = 39 then (if pk l 1 < 32 ∨ pk l 1 = 39 ∨ pk l 1 = 92 ∨ pk l 1 = 65533 ∨ pk l 2 ≠ 39 then .bad else .tok 3 3 (pk l 1))
  else if two (pk l 0) (pk l 1) = true then .tok 4 2 0
  else if one (pk l 0) = true then .tok 4 1 0
  else .bad

def Sc.gon (x : Sc) (k : Nat) (nl : Int) : Sc := ⟨x.text, x.cs, x.next + k, x.line + nl, x.out⟩

theorem byte_low {l : List UInt8} {r : Int} (h : pk l 0 = r) (h0 : 0 ≤ r) (h1 : r < 128) : ∃ b t, l = b :: t ∧ (b.toNat : Int) = r := by
  cases l with
  | nil => rw [pk_nil] at h; omega
  | cons b t =>
    rw [pk_zero] at h
    have := decL_ascii (b := b) (l := t) (by omega)
    rw [this.1] at h
    exact ⟨b, t, rfl, h⟩

theorem step_ok {x : Sc} {pos p id : Nat} {ty : TypeId} {s : Hs} (hA : x.At pos) (hs : s.H id = some (.cells (x.cells p) ty false)) (hp : s.T p = some x.out.length) (hline : 0 ≤ x.line ∧ x.line ≤ 100000) {l : List UInt8} (hl : l = x.text.drop pos) (hne : l ≠ []) {K : Out → Hs → Prop}
    (hh : act l ≠ .huge)
    (h1 : ∀ k nl n m, act l = .go k nl → s.n ≤ n → s.m ≤ m → K (.ret (.bool true)) ⟨hset s.H id (some (.cells ((x.gon k nl).cells p) ty false)), s.T, n, m⟩)
    (h2 : ∀ kind k v n m, act l = .tok kind k v → s.n ≤ n → s.m ≤ m → K (.ret (.bool true)) ⟨hset s.H id (some (.cells ((x.add kind v k).cells p) ty false)), hset s.T p (some (x.add kind v k).out.length), n, m⟩)
    (h0 : ∀ x' n m, act l = .bad → x'.line = x.line → s.n ≤ n → s.m ≤ m → K (.ret (.bool false)) ⟨hset s.H id (some (.cells (Sc.cells x' p) ty false)), s.T, n, m⟩) :
    CallP cx 20 [.ptr id 0] s K := by
  have hlt := hA.next_lt
  have hcs := hA.cs_le
  have p0 := hA.peek 0
  have p1 := hA.peek 1
  rw [← hl] at p0 p1
  have hw1 : IntKind.i64.wrap (x.line + 1) = x.line + 1 := w64 (by omega) (by omega)
  have hw2 : IntKind.i64.wrap ((x.next : Int) + 1) = ((x.next + 1 : Nat) : Int) := by rw [w64 (by omega) (by omega)]; rfl
  have hc : Sc.cells x p = [.str x.text, .lst 2 (x.cs.map chP) none, .int .i64 (x.next : Int), .int .i64 x.line, .lst 4 (x.out.map tokP) (some p)] := rfl
  have hg : ∀ k nl, Sc.cells (x.gon k nl) p = [.str x.text, .lst 2 (x.cs.map chP) none, .int .i64 ((x.next + k : Nat) : Int), .int .i64 (x.line + nl), .lst 4 (x.out.map tokP) (some p)] := fun _ _ => rfl
  have hs0 : ∀ n m, act l = .bad → s.n ≤ n → s.m ≤ m → K (.ret (.bool false)) ⟨s.H, s.T, n, m⟩ := by
    intro n m a b c
    have := h0 x n m a rfl b c
    rwa [hset_id hs] at this
  refine call_ok cx_ok chk_scan_scanner_step rfl ?_
  unfold callW fp_scan_scanner_step
  by_cases c1 : pk l 0 = 10
  · have e : act l = .go 1 1 := by simp only [act, c1, if_true]
    have hK := h1 1 1 s.n s.m e (Nat.le_refl _) (Nat.le_refl _)
    rw [hg] at hK
    repeat' first
      | simp (maxSteps := 3000000) (disch := omega) only [go_sem, ↓reduceIte, Nat.reduceEqDiff, Nat.reduceAdd, Nat.reduceLeDiff, Nat.le_refl, Int.reduceEq, Int.reduceLE, Int.reduceLT, Int.reduceNe, Int.reduceSub, Int.reduceAdd, Int.reduceMul, Int.reduceNeg, Int.reduceToNat, Nat.reduceMul, Nat.mul_one, ne_eq, not_true_eq_false, not_false_eq_true, w64, wu8, wu64, wi32, dec_t, dec_f, p0, c1, hs, hc, hw1, hw2, hset_self]
      | (refine CallP.to (peek_ok (x := x) (p := p) (ty := ty) (a := 0) (by exact hs) (by omega)) ?_)
      | (refine And.intro (by omega) ?_)
      | (refine gsplit_intro (fun h => ?_) (fun h => ?_) <;> (try simp only [decide_eq_true_eq, decide_eq_false_iff_not] at h))
    exact hK
  by_cases c2 : pk l 0 = 32 ∨ pk l 0 = 9 ∨ pk l 0 = 13
  · have e : act l = .go 1 0 := by simp only [act, c1, c2, if_true, if_false]
    have hK := h1 1 0 s.n s.m e (Nat.le_refl _) (Nat.le_refl _)
    rw [hg, Int.add_zero] at hK
    have c2' : (pk l 0 = 32 ∨ pk l 0 = 9) ∨ pk l 0 = 13 := by omega
    rcases c2' with (c2 | c2) | c2
    · repeat' first
        | simp (maxSteps := 3000000) (disch := omega) only [go_sem, ↓reduceIte, Nat.reduceEqDiff, Nat.reduceAdd, Nat.reduceLeDiff, Nat.le_refl, Int.reduceEq, Int.reduceLE, Int.reduceLT, Int.reduceNe, Int.reduceSub, Int.reduceAdd, Int.reduceMul, Int.reduceNeg, Int.reduceToNat, Nat.reduceMul, Nat.mul_one, ne_eq, not_true_eq_false, not_false_eq_true, w64, wu8, wu64, wi32, dec_t, dec_f, p0, c2, hs, hc, hw1, hw2, hset_self]
        | (refine CallP.to (peek_ok (x := x) (p := p) (ty := ty) (a := 0) (by exact hs) (by omega)) ?_)
        | (refine And.intro (by omega) ?_)
        | (refine gsplit_intro (fun h => ?_) (fun h => ?_) <;> (try simp only [decide_eq_true_eq, decide_eq_false_iff_not] at h))
      exact hK
    · repeat' first
        | simp (maxSteps := 3000000) (disch := omega) only [go_sem, ↓reduceIte, Nat.reduceEqDiff, Nat.reduceAdd, Nat.reduceLeDiff, Nat.le_refl, Int.reduceEq, Int.reduceLE, Int.reduceLT, Int.reduceNe, Int.reduceSub, Int.reduceAdd, Int.reduceMul, Int.reduceNeg, Int.reduceToNat, Nat.reduceMul, Nat.mul_one, ne_eq, not_true_eq_false, not_false_eq_true, w64, wu8, wu64, wi32, dec_t, dec_f, p0, c2, hs, hc, hw1, hw2, hset_self]
        | (refine CallP.to (peek_ok (x := x) (p := p) (ty := ty) (a := 0) (by exact hs) (by omega)) ?_)
        | (refine And.intro (by omega) ?_)
        | (refine gsplit_intro (fun h => ?_) (fun h => ?_) <;> (try simp only [decide_eq_true_eq, decide_eq_false_iff_not] at h))
      exact hK
    · repeat' first
        | simp (maxSteps := 3000000) (disch := omega) only [go_sem, ↓reduceIte, Nat.reduceEqDiff, Nat.reduceAdd, Nat.reduceLeDiff, Nat.le_refl, Int.reduceEq, Int.reduceLE, Int.reduceLT, Int.reduceNe, Int.reduceSub, Int.reduceAdd, Int.reduceMul, Int.reduceNeg, Int.reduceToNat, Nat.reduceMul, Nat.mul_one, ne_eq, not_true_eq_false, not_false_eq_true, w64, wu8, wu64, wi32, dec_t, dec_f, p0, c2, hs, hc, hw1, hw2, hset_self]
        | (refine CallP.to (peek_ok (x := x) (p := p) (ty := ty) (a := 0) (by exact hs) (by omega)) ?_)
        | (refine And.intro (by omega) ?_)
        | (refine gsplit_intro (fun h => ?_) (fun h => ?_) <;> (try simp only [decide_eq_true_eq, decide_eq_false_iff_not] at h))
      exact hK
  by_cases c3 : pk l 0 = 47 ∧ pk l 1 = 47
  · have c3' := c3
    obtain ⟨c3a, c3b⟩ := c3
    have hadv : ∀ k, Sc.cells (x.adv k) p = Sc.cells (x.gon k 0) p := fun k => by simp [Sc.cells, Sc.adv, Sc.gon]
    by_cases c4 : pk l (spanL nfB l) = 65533
    · have e : act l = .bad := by rw [act, if_neg c1, if_neg c2, if_pos c3', if_pos c4]
      repeat' first
        | simp (maxSteps := 3000000) (disch := omega) only [go_sem, ↓reduceIte, Nat.reduceEqDiff, Nat.reduceAdd, Nat.reduceLeDiff, Nat.le_refl, Int.reduceEq, Int.reduceLE, Int.reduceLT, Int.reduceNe, Int.reduceSub, Int.reduceAdd, Int.reduceMul, Int.reduceNeg, Int.reduceToNat, Nat.reduceMul, Nat.mul_one, ne_eq, not_true_eq_false, not_false_eq_true, w64, wu8, wu64, wi32, dec_t, dec_f, p0, p1, c3a, c3b]
        | (refine CallP.to (peek_ok (x := x) (p := p) (ty := ty) (a := 0) (by exact hs) (by omega)) ?_)
        | (refine CallP.to (peek_ok (x := x) (p := p) (ty := ty) (a := 1) (by exact hs) (by omega)) ?_)
        | (refine CallP.into (comment_ok (x := x) (p := p) (ty := ty) hA (by exact hs)) (fun n2 m2 hn2 hm2 => ?_))
        | (refine And.intro (by omega) ?_)
        | (refine gsplit_intro (fun h => ?_) (fun h => ?_) <;> (try simp only [decide_eq_true_eq, decide_eq_false_iff_not] at h))
      rw [← hl, c4]
      repeat' first
        | simp (maxSteps := 3000000) (disch := omega) only [go_sem, ↓reduceIte, Nat.reduceEqDiff, Nat.reduceAdd, Nat.reduceLeDiff, Nat.le_refl, Int.reduceEq, Int.reduceLE, Int.reduceLT, Int.reduceNe, Int.reduceSub, Int.reduceAdd, Int.reduceMul, Int.reduceNeg, Int.reduceToNat, Nat.reduceMul, Nat.mul_one, ne_eq, not_true_eq_false, not_false_eq_true, w64, wu8, wu64, wi32, dec_t, dec_f]
        | (refine And.intro (by omega) ?_)
        | (refine gsplit_intro (fun h => ?_) (fun h => ?_) <;> (try simp only [decide_eq_true_eq, decide_eq_false_iff_not] at h))
      exact h0 _ _ _ e (by rfl) hn2 hm2
    · have e : act l = .go (spanL nfB l) 0 := by rw [act, if_neg c1, if_neg c2, if_pos c3', if_neg c4]
      have hK := fun n m => h1 _ _ n m e
      repeat' first
        | simp (maxSteps := 3000000) (disch := omega) only [go_sem, ↓reduceIte, Nat.reduceEqDiff, Nat.reduceAdd, Nat.reduceLeDiff, Nat.le_refl, Int.reduceEq, Int.reduceLE, Int.reduceLT, Int.reduceNe, Int.reduceSub, Int.reduceAdd, Int.reduceMul, Int.reduceNeg, Int.reduceToNat, Nat.reduceMul, Nat.mul_one, ne_eq, not_true_eq_false, not_false_eq_true, w64, wu8, wu64, wi32, dec_t, dec_f, p0, p1, c3a, c3b]
        | (refine CallP.to (peek_ok (x := x) (p := p) (ty := ty) (a := 0) (by exact hs) (by omega)) ?_)
        | (refine CallP.to (peek_ok (x := x) (p := p) (ty := ty) (a := 1) (by exact hs) (by omega)) ?_)
        | (refine CallP.into (comment_ok (x := x) (p := p) (ty := ty) hA (by exact hs)) (fun n2 m2 hn2 hm2 => ?_))
        | (refine And.intro (by omega) ?_)
        | (refine gsplit_intro (fun h => ?_) (fun h => ?_) <;> (try simp only [decide_eq_true_eq, decide_eq_false_iff_not] at h))
      rw [← hl]
      repeat' first
        | simp (maxSteps := 3000000) (disch := omega) only [go_sem, ↓reduceIte, Nat.reduceEqDiff, Nat.reduceAdd, Nat.reduceLeDiff, Nat.le_refl, Int.reduceEq, Int.reduceLE, Int.reduceLT, Int.reduceNe, Int.reduceSub, Int.reduceAdd, Int.reduceMul, Int.reduceNeg, Int.reduceToNat, Nat.reduceMul, Nat.mul_one, ne_eq, not_true_eq_false, not_false_eq_true, w64, wu8, wu64, wi32, dec_t, dec_f, hadv, c4]
        | (refine And.intro (by omega) ?_)
        | (refine gsplit_intro (fun h => ?_) (fun h => ?_) <;> (try simp only [decide_eq_true_eq, decide_eq_false_iff_not] at h))
      exact hK _ _ hn2 hm2
  by_cases c4 : letterB (pk l 0) = true
  · have hb := letterB_low c4
    have cr : (97 ≤ pk l 0 ∧ pk l 0 ≤ 122) ∨ (65 ≤ pk l 0 ∧ pk l 0 ≤ 90) ∨ pk l 0 = 95 := by simpa [letterB] using c4
    repeat' first
      | simp (maxSteps := 3000000) (disch := omega) only [go_sem, ↓reduceIte, Nat.reduceEqDiff, Nat.reduceAdd, Nat.reduceLeDiff, Nat.le_refl, Int.reduceEq, Int.reduceLE, Int.reduceLT, Int.reduceNe, Int.reduceSub, Int.reduceAdd, Int.reduceMul, Int.reduceNeg, Int.reduceToNat, Nat.reduceMul, Nat.mul_one, ne_eq, not_true_eq_false, not_false_eq_true, w64, wu8, wu64, wi32, dec_t, dec_f, p0, p1, c4]
      | (refine CallP.to (peek_ok (x := x) (p := p) (ty := ty) (a := 0) (by exact hs) (by omega)) ?_)
      | (refine CallP.to (letter_ok _ _) ?_)
      | (refine sname_ok (x := x) (p := p) (ty := ty) hA (by exact hs) (by exact hp) hl rfl (fun kind n m hk hor hn2 hm2 => ?_) (fun n m hw1 hw2 hn2 hm2 => ?_))
      | (refine And.intro (by omega) ?_)
      | (refine gsplit_intro (fun h => ?_) (fun h => ?_) <;> (try simp only [decide_eq_true_eq, decide_eq_false_iff_not] at h))
    · refine h2 kind _ _ n m ?_ hn2 hm2
      rw [act, if_neg c1, if_neg c2, if_neg c3, if_pos c4]
      by_cases hw : wordB (wd_ l (spanL partB l)) = true
      · rw [if_pos hw] at hk ⊢; rw [hk]
      · rw [if_neg hw] at hk ⊢
        rw [if_pos (hor.resolve_left hw), hk]
    · exact hs0 n m (by rw [act, if_neg c1, if_neg c2, if_neg c3, if_pos c4, if_neg (by simp [hw1]), if_neg (by simp [hw2])]) hn2 hm2
  have c4' : letterB (pk l 0) = false := by simpa using c4
  by_cases c5 : digitB (pk l 0) = true
  · have hb := digitB_low c5
    have cr : 48 ≤ pk l 0 ∧ pk l 0 ≤ 57 := by simpa [digitB] using c5
    have hbig : ¬ 9223372036854775807 < decVal (wd_ l (spanL digitB l)) := fun h => hh (by rw [act, if_neg c1, if_neg c2, if_neg c3, if_neg c4, if_pos c5, if_pos h])
    have hw0 : wd_ l (spanL digitB l) ≠ [] := by
      obtain ⟨b, t, hbt, hbr⟩ := byte_low (l := l) rfl hb.1 hb.2
      rw [wd_run (fun r => digitB_low), hbt, List.takeWhile_cons_of_pos (by rw [hbr]; exact c5)]
      simp
    repeat' first
      | simp (maxSteps := 3000000) (disch := omega) only [go_sem, ↓reduceIte, Nat.reduceEqDiff, Nat.reduceAdd, Nat.reduceLeDiff, Nat.le_refl, Int.reduceEq, Int.reduceLE, Int.reduceLT, Int.reduceNe, Int.reduceSub, Int.reduceAdd, Int.reduceMul, Int.reduceNeg, Int.reduceToNat, Nat.reduceMul, Nat.mul_one, ne_eq, not_true_eq_false, not_false_eq_true, w64, wu8, wu64, wi32, dec_t, dec_f, p0, p1, c4', c5]
      | (refine CallP.to (peek_ok (x := x) (p := p) (ty := ty) (a := 0) (by exact hs) (by omega)) ?_)
      | (refine CallP.to (letter_ok _ _) ?_)
      | (refine CallP.to (digit_ok _ _) ?_)
      | (refine snum_ok (x := x) (p := p) (ty := ty) hA (by exact hs) (by exact hp) hl rfl hw0 (by omega) (fun n m hnz hn2 hm2 => ?_) (fun n m hz hn2 hm2 => ?_))
      | (refine And.intro (by omega) ?_)
      | (refine gsplit_intro (fun h => ?_) (fun h => ?_) <;> (try simp only [decide_eq_true_eq, decide_eq_false_iff_not] at h))
    · exact h2 3 _ _ n m (by rw [act, if_neg c1, if_neg c2, if_neg c3, if_neg c4, if_pos c5, if_neg hbig, if_neg hnz]) hn2 hm2
    · exact hs0 n m (by rw [act, if_neg c1, if_neg c2, if_neg c3, if_neg c4, if_pos c5, if_neg hbig, if_pos hz]) hn2 hm2
  have c5' : digitB (pk l 0) = false := by simpa using c5
  by_cases c6 : pk l 0 = 39
  · repeat' first
      | simp (maxSteps := 3000000) (disch := omega) only [go_sem, ↓reduceIte, Nat.reduceEqDiff, Nat.reduceAdd, Nat.reduceLeDiff, Nat.le_refl, Int.reduceEq, Int.reduceLE, Int.reduceLT, Int.reduceNe, Int.reduceSub, Int.reduceAdd, Int.reduceMul, Int.reduceNeg, Int.reduceToNat, Nat.reduceMul, Nat.mul_one, ne_eq, not_true_eq_false, not_false_eq_true, w64, wu8, wu64, wi32, dec_t, dec_f, p0, p1, c4', c5']
      | (refine CallP.to (peek_ok (x := x) (p := p) (ty := ty) (a := 0) (by exact hs) (by omega)) ?_)
      | (refine CallP.to (letter_ok _ _) ?_)
      | (refine CallP.to (digit_ok _ _) ?_)
      | (refine squot_ok (x := x) (p := p) (ty := ty) hA (by exact hs) (by exact hp) hl (fun n m hq hn2 hm2 => ?_) (fun n m hq hn2 hm2 => ?_))
      | (refine And.intro (by omega) ?_)
      | (refine gsplit_intro (fun h => ?_) (fun h => ?_) <;> (try simp only [decide_eq_true_eq, decide_eq_false_iff_not] at h))
    · exact h2 3 _ _ n m (by rw [act, if_neg c1, if_neg c2, if_neg c3, if_neg c4, if_neg c5, if_pos c6, if_neg hq]) hn2 hm2
    · exact hs0 n m (by rw [act, if_neg c1, if_neg c2, if_neg c3, if_neg c4, if_neg c5, if_pos c6, if_pos hq]) hn2 hm2
  have c3' : ∀ h : pk l 0 = 47, pk l 1 ≠ 47 := fun h h' => c3 ⟨h, h'⟩
  have hact : act l = if two (pk l 0) (pk l 1) = true then .tok 4 2 0 else if one (pk l 0) = true then .tok 4 1 0 else .bad := by
    rw [act, if_neg c1, if_neg c2, if_neg c3, if_neg c4, if_neg c5, if_neg c6]
  repeat' first
    | simp (maxSteps := 3000000) (disch := omega) only [go_sem, ↓reduceIte, Nat.reduceEqDiff, Nat.reduceAdd, Nat.reduceLeDiff, Nat.le_refl, Int.reduceEq, Int.reduceLE, Int.reduceLT, Int.reduceNe, Int.reduceSub, Int.reduceAdd, Int.reduceMul, Int.reduceNeg, Int.reduceToNat, Nat.reduceMul, Nat.mul_one, ne_eq, not_true_eq_false, not_false_eq_true, w64, wu8, wu64, wi32, dec_t, dec_f, p0, p1, c4', c5']
    | (refine CallP.to (peek_ok (x := x) (p := p) (ty := ty) (a := 0) (by exact hs) (by omega)) ?_)
    | (refine CallP.to (peek_ok (x := x) (p := p) (ty := ty) (a := 1) (by exact hs) (by omega)) ?_)
    | (refine CallP.to (letter_ok _ _) ?_)
    | (refine CallP.to (digit_ok _ _) ?_)
    | (refine sign_ok (x := x) (p := p) (ty := ty) hA (by exact hs) (by exact hp) hl (fun n m ht hn2 hm2 => ?_) (fun n m ht ho hn2 hm2 => ?_) (fun ht ho => ?_))
    | (refine And.intro (by omega) ?_)
    | (refine gsplit_intro (fun h => ?_) (fun h => ?_) <;> (try simp only [decide_eq_true_eq, decide_eq_false_iff_not] at h))
  all_goals first
    | exact h2 4 _ _ n m (by rw [hact, if_pos ht]) hn2 hm2
    | exact h2 4 _ _ n m (by rw [hact, if_neg (by simp [ht]), if_pos ho]) hn2 hm2
    | exact hs0 s.n s.m (by rw [hact, if_neg (by simp [ht]), if_neg (by simp [ho])]) (Nat.le_refl _) (Nat.le_refl _)
    | (exfalso; omega)
end Go.Proofs.YteapohlamngkpaaDoor
