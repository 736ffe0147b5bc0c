/-
  Layer 2: texts that are scanned: words, and what stands between.
-/
import Derived.Test.YteapohlamngkpaaDoorScG
namespace Go.Proofs.YteapohlamngkpaaDoor
open Go.Pv
attribute [local irreducible] Go.Pv.CallP Go.Pv.gsplit Go.Pv.ToLe Go.Pv.LoopV
set_option linter.unusedVariables false
set_option linter.unusedSimpArgs false
set_option maxRecDepth 100000
set_option maxHeartbeats 4000000

def Stp (l : List UInt8) (line : Int) (acc : List Tok) (l' : List UInt8) (line' : Int) (acc' : List Tok) : Prop := ∃ c, ∀ f, scanR (f + c) l line acc = scanR f l' line' acc'

theorem Stp.refl (l : List UInt8) (line : Int) (acc : List Tok) : Stp l line acc l line acc := ⟨0, fun _ => rfl⟩
theorem Stp.trans {l l' l2 : List UInt8} {line line' line2 : Int} {acc acc' acc2 : List Tok} (h : Stp l line acc l' line' acc') (k : Stp l' line' acc' l2 line2 acc2) : Stp l line acc l2 line2 acc2 := by
  obtain ⟨c, h⟩ := h
  obtain ⟨d, k⟩ := k
  exact ⟨d + c, fun f => by rw [← Nat.add_assoc, h, k]⟩

theorem Stp.tok {l : List UInt8} {kind n : Int} {k : Nat} (line : Int) (acc : List Tok) (hl : l ≠ []) (h : act l = .tok kind k n) : Stp l line acc (l.drop (atL l k)) line (acc ++ [⟨kind, wd_ l k, n, line⟩]) := by
  cases l with
  | nil => exact absurd rfl hl
  | cons b l => exact ⟨1, fun f => by simp only [scanR, h]⟩
theorem Stp.go {l : List UInt8} {nl : Int} {k : Nat} (line : Int) (acc : List Tok) (hl : l ≠ []) (h : act l = .go k nl) : Stp l line acc (l.drop (atL l k)) (line + nl) acc := by
  cases l with
  | nil => exact absurd rfl hl
  | cons b l => exact ⟨1, fun f => by simp only [scanR, h]⟩
theorem Stp.end {t : List UInt8} {line : Int} {acc : List Tok} (h : Stp t 1 [] [] line acc) : ∃ f, scanR f t 1 [] = some (.ok (acc ++ [⟨5, [], 0, line⟩])) := by
  obtain ⟨c, h⟩ := h
  exact ⟨1 + c, by rw [h]; rfl⟩
theorem Stp.bad {t l : List UInt8} {line : Int} {acc : List Tok} (h : Stp t 1 [] l line acc) (hl : l ≠ []) (hb : act l = .bad) : ∃ f, scanR f t 1 [] = some (.err line) := by
  obtain ⟨c, h⟩ := h
  refine ⟨1 + c, ?_⟩
  rw [h]
  cases l with
  | nil => exact absurd rfl hl
  | cons b l => simp only [scanR, hb]

/-! ### Characters -/
theorem pk_low {b : UInt8} (h : b.toNat < 128) (l : List UInt8) : pk (b :: l) 0 = (b.toNat : Int) := by rw [pk_zero, decL_low h]
theorem pk_low1 {b : UInt8} (h : b.toNat < 128) (l : List UInt8) (a : Nat) : pk (b :: l) (a + 1) = pk l a := by rw [pk_succ, decL_low h]; rfl
theorem atL_low {b : UInt8} (h : b.toNat < 128) (l : List UInt8) : atL (b :: l) 1 = 1 := by
  rw [atL_succ b l 0 (pk_lt (a := 0) (pk_zero_ne b l)), decL_low h, atL_zero]

theorem spanL_cons (kb : Int → Bool) (b : UInt8) (l : List UInt8) : spanL kb (b :: l) = if kb ((decL (b :: l)).1 : Int) = true then spanL kb ((b :: l).drop (decL (b :: l)).2) + 1 else 0 := by
  unfold spanL
  rw [C_cons]
  split
  · rename_i h
    rw [List.takeWhile_cons_of_pos (p := fun c : Int × Nat => kb c.1) h, List.length_cons, C_at, List.takeWhile_map, List.length_map]
    rfl
  · rename_i h
    rw [List.takeWhile_cons_of_neg (p := fun c : Int × Nat => kb c.1) h]
    rfl

theorem spanL_nil {kb : Int → Bool} (h : kb (-1) = false) : spanL kb [] = 0 := by simp [spanL, C_nil, h]
theorem spanL_zero {kb : Int → Bool} {l : List UInt8} (hk : kb (-1) = false) (h : kb (pk l 0) = false) : spanL kb l = 0 := by
  cases l with
  | nil => exact spanL_nil hk
  | cons b l => rw [pk_zero] at h; rw [spanL_cons, if_neg (by simp [h])]

/-- The characters of a kind lead to there. -/
def RunTo (kb : Int → Bool) (l l' : List UInt8) : Prop := spanL kb l < (C 0 l).length ∧ l.drop (atL l (spanL kb l)) = l' ∧ pk l (spanL kb l) = pk l' 0
theorem RunTo.stop {kb : Int → Bool} {l : List UInt8} (hk : kb (-1) = false) (h : kb (pk l 0) = false) : RunTo kb l l := by
  unfold RunTo
  rw [spanL_zero hk h, atL_zero]
  exact ⟨C_length_pos _ _, rfl, rfl⟩
theorem RunTo.cons {kb : Int → Bool} {b : UInt8} {l l' : List UInt8} (h : kb ((decL (b :: l)).1 : Int) = true) (k : RunTo kb ((b :: l).drop (decL (b :: l)).2) l') : RunTo kb (b :: l) l' := by
  obtain ⟨k1, k2, k3⟩ := k
  have hlt : spanL kb ((b :: l).drop (decL (b :: l)).2) + 1 < (C 0 (b :: l)).length := by
    rw [C_cons, List.length_cons, C_length]; omega
  unfold RunTo
  rw [spanL_cons, if_pos h, atL_succ _ _ _ hlt, pk_succ]
  exact ⟨hlt, by rw [← List.drop_drop, k2], k3⟩
theorem RunTo.low {kb : Int → Bool} {b : UInt8} {l l' : List UInt8} (hb : b.toNat < 128) (h : kb (b.toNat : Int) = true) (k : RunTo kb l l') : RunTo kb (b :: l) l' :=
  RunTo.cons (by rw [decL_low hb]; exact h) (by rw [decL_low hb]; exact k)

theorem takeWhile_stop {kb : Int → Bool} (hkb : ∀ r : Int, kb r = true → 0 ≤ r ∧ r < 128) {l : List UInt8} (h : kb (pk l 0) = false) : (l.takeWhile fun b => kb b.toNat) = [] := by
  cases l with
  | nil => rfl
  | cons b l =>
    refine List.takeWhile_cons_of_neg ?_
    intro hb
    have := hkb _ hb
    rw [pk_low (by omega)] at h
    rw [hb] at h; cases h

theorem run_word {kb : Int → Bool} (hkb : ∀ r : Int, kb r = true → 0 ≤ r ∧ r < 128) {w l : List UInt8} (hw : ∀ b ∈ w, kb b.toNat = true) (h : kb (pk l 0) = false) : spanL kb (w ++ l) = w.length ∧ atL (w ++ l) w.length = w.length := by
  obtain ⟨h1, h2⟩ := run_bytes hkb (w ++ l)
  have : ((w ++ l).takeWhile fun b => kb b.toNat) = w := by
    rw [List.takeWhile_append_of_pos (by simpa using hw), takeWhile_stop hkb h, List.append_nil]
  rw [this] at h1 h2
  exact ⟨h1, by rw [← h1]; rw [h1] at h2 ⊢; exact h2⟩

/-! ### Tokens -/
/-- A token, in front of what is so. -/
def Tk (ok : List UInt8 → Prop) (w : List UInt8) (kind n : Int) : Prop := w ≠ [] ∧ ∀ l, ok l → ∃ k, act (w ++ l) = .tok kind k n ∧ atL (w ++ l) k = w.length

theorem Tk.stp {ok : List UInt8 → Prop} {w : List UInt8} {kind n : Int} (h : Tk ok w kind n) {l : List UInt8} (hl : ok l) (line : Int) (acc : List Tok) : Stp (w ++ l) line acc l line (acc ++ [⟨kind, w, n, line⟩]) := by
  obtain ⟨k, h1, h2⟩ := h.2 l hl
  have := Stp.tok line acc (by simp [h.1]) h1
  rw [wd_, h2, List.drop_left, List.take_left] at this
  exact this
theorem Tk.mono {ok ok' : List UInt8 → Prop} {w : List UInt8} {kind n : Int} (h : Tk ok w kind n) (k : ∀ l, ok' l → ok l) : Tk ok' w kind n := ⟨h.1, fun l hl => h.2 l (k l hl)⟩

theorem letterB_act {r : Int} (h : letterB r = true) : ¬ r = 10 ∧ ¬ (r = 32 ∨ r = 9 ∨ r = 13) ∧ ¬ r = 47 := by
  simp only [letterB, decide_eq_true_eq] at h; omega

theorem tk_part {b : UInt8} {t : List UInt8} {kind : Int} (hb : letterB b.toNat = true) (ht : ∀ c ∈ t, partB c.toNat = true) (hk : (wordB (b :: t) = true ∧ kind = 2) ∨ (wordB (b :: t) = false ∧ nameB (b :: t) = true ∧ kind = 1)) : Tk (fun l => partB (pk l 0) = false) (b :: t) kind 0 := by
  refine ⟨List.cons_ne_nil _ _, fun l hl => ?_⟩
  have hall : ∀ c ∈ b :: t, partB c.toNat = true := by
    intro c hc
    rcases List.mem_cons.1 hc with rfl | hc
    · simp [partB, hb]
    · exact ht c hc
  obtain ⟨h1, h2⟩ := run_word (fun r => partB_low) hall hl
  have hlow := letterB_low hb
  obtain ⟨g1, g2, g3⟩ := letterB_act hb
  have p0 : pk (b :: t ++ l) 0 = (b.toNat : Int) := pk_low (by omega) _
  have hw : wd_ (b :: t ++ l) (b :: t).length = b :: t := by rw [wd_, h2, List.take_left]
  refine ⟨(b :: t).length, ?_, h2⟩
  rw [act, p0, if_neg g1, if_neg g2, if_neg (fun h => g3 h.1), if_pos hb, h1, hw]
  rcases hk with ⟨k1, rfl⟩ | ⟨k1, k2, rfl⟩
  · rw [if_pos k1]
  · rw [if_neg (by simp [k1]), if_pos k2]

theorem tk_num {w : List UInt8} (h0 : w ≠ []) (hd : ∀ b ∈ w, digitB b.toNat = true) (hv : decVal w ≤ 9223372036854775807) (hz : ¬ (1 < w.length ∧ byteAt w 0 = 48)) : Tk (fun l => digitB (pk l 0) = false) w 3 (decVal w) := by
  refine ⟨h0, fun l hl => ?_⟩
  obtain ⟨h1, h2⟩ := run_word (fun r => digitB_low) hd hl
  cases w with
  | nil => exact absurd rfl h0
  | cons b t =>
    have hb := hd b (by simp)
    have hlow := digitB_low hb
    have p0 : pk (b :: t ++ l) 0 = (b.toNat : Int) := pk_low (by omega) _
    have hw : wd_ (b :: t ++ l) (b :: t).length = b :: t := by rw [wd_, h2, List.take_left]
    have hb' := hb
    simp only [digitB, decide_eq_true_eq] at hb'
    have hnl : ¬ letterB b.toNat = true := by simp only [letterB, decide_eq_true_eq]; omega
    refine ⟨(b :: t).length, ?_, h2⟩
    rw [act, p0, if_neg (by omega), if_neg (by omega), if_neg (by omega), if_neg hnl, if_pos hb, h1, hw, if_neg (by omega), if_neg hz]

theorem one_act {r : Int} (h : one r = true) : ¬ r = 10 ∧ ¬ (r = 32 ∨ r = 9 ∨ r = 13) ∧ ¬ letterB r = true ∧ ¬ digitB r = true ∧ ¬ r = 39 := by
  simp only [one, decide_eq_true_eq, List.mem_cons, List.not_mem_nil, or_false] at h
  simp only [letterB, digitB, decide_eq_true_eq]; omega
theorem two_one {a b : Int} (h : two a b = true) : one a = true ∨ a = 33 := by
  simp only [two, decide_eq_true_eq, List.mem_cons, List.not_mem_nil, or_false, Prod.mk.injEq] at h
  simp only [one, decide_eq_true_eq, List.mem_cons, List.not_mem_nil, or_false]; omega

theorem tk_one {b : UInt8} (h : one b.toNat = true) : Tk (fun l => two b.toNat (pk l 0) = false ∧ ¬ ((b.toNat : Int) = 47 ∧ pk l 0 = 47)) [b] 4 0 := by
  refine ⟨List.cons_ne_nil _ _, fun l hl => ⟨1, ?_, ?_⟩⟩
  · have hlow : b.toNat < 128 := by
      simp only [one, decide_eq_true_eq, List.mem_cons, List.not_mem_nil, or_false] at h; omega
    have p0 : pk ([b] ++ l) 0 = (b.toNat : Int) := pk_low hlow _
    have p1 : pk ([b] ++ l) 1 = pk l 0 := pk_low1 hlow _ 0
    obtain ⟨g1, g2, g3, g4, g5⟩ := one_act h
    rw [act, p0, p1, if_neg g1, if_neg g2, if_neg hl.2, if_neg g3, if_neg g4, if_neg g5, if_neg (by simp [hl.1]), if_pos h]
  · have hlow : b.toNat < 128 := by
      simp only [one, decide_eq_true_eq, List.mem_cons, List.not_mem_nil, or_false] at h; omega
    exact atL_low hlow _

theorem tk_two {b c : UInt8} (h : two b.toNat c.toNat = true) : Tk (fun _ => True) [b, c] 4 0 := by
  have h' := h
  simp only [two, decide_eq_true_eq, List.mem_cons, List.not_mem_nil, or_false, Prod.mk.injEq] at h'
  refine ⟨List.cons_ne_nil _ _, fun l _ => ⟨2, ?_, ?_⟩⟩
  · have p0 : pk ([b, c] ++ l) 0 = (b.toNat : Int) := pk_low (by omega) _
    have p1 : pk ([b, c] ++ l) 1 = (c.toNat : Int) := (pk_low1 (by omega) _ 0).trans (pk_low (by omega) _)
    have g3 : ¬ letterB b.toNat = true := by simp only [letterB, decide_eq_true_eq]; omega
    have g4 : ¬ digitB b.toNat = true := by simp only [digitB, decide_eq_true_eq]; omega
    rw [act, p0, p1, if_neg (by omega), if_neg (by omega), if_neg (by omega), if_neg g3, if_neg g4, if_neg (by omega), if_pos h]
  · have h1 : 1 + 1 < (C 0 ([b, c] ++ l)).length := pk_lt (a := 1) (by
      show pk (b :: c :: l) (0 + 1) ≠ -1
      rw [pk_low1 (by omega), pk_low (by omega)]; omega)
    show atL (b :: c :: l) (1 + 1) = 2
    rw [atL_succ b (c :: l) 1 h1, decL_low (by omega)]
    show 1 + atL (c :: l) 1 = 2
    rw [atL_low (by omega)]

/-- A character in quotes. -/
theorem tk_quot {e : List UInt8} {r : Int} (he : e ≠ []) (hd : ∀ l, decL (e ++ l) = (r.toNat, e.length)) (hr : 32 ≤ r ∧ r ≠ 39 ∧ r ≠ 92 ∧ r ≠ 65533) : Tk (fun _ => True) (39 :: e ++ [39]) 3 r := by
  refine ⟨by simp, fun l _ => ⟨3, ?_, ?_⟩⟩
  all_goals
    have e0 : 39 :: e ++ [39] ++ l = 39 :: (e ++ 39 :: l) := by simp
    rw [e0]
    have p0 : pk (39 :: (e ++ 39 :: l)) 0 = 39 := pk_low (by decide) _
    obtain ⟨b, t, hbt⟩ : ∃ b t, e = b :: t := by
      cases e with
      | nil => exact absurd rfl he
      | cons b t => exact ⟨b, t, rfl⟩
    have hd' := hd (39 :: l)
    have p1 : pk (39 :: (e ++ 39 :: l)) 1 = r := by
      rw [pk_low1 (by decide) _ 0, hbt, List.cons_append, pk_zero, ← List.cons_append, ← hbt, hd']
      show ((r.toNat : Nat) : Int) = r
      omega
    have hdr : (e ++ 39 :: l).drop e.length = 39 :: l := List.drop_left
    have p2 : pk (39 :: (e ++ 39 :: l)) 2 = 39 := by
      rw [pk_low1 (by decide) _ 1, hbt, List.cons_append, pk_succ, ← List.cons_append, ← hbt, hd']
      show pk ((e ++ 39 :: l).drop e.length) 0 = 39
      rw [hdr]
      exact pk_low (by decide) _
  · rw [act, p0, p1, p2, if_neg (by decide), if_neg (by decide), if_neg (fun h => by have := h.1; omega), if_neg (by decide), if_neg (by decide), if_pos rfl, if_neg (by omega)]
  · have h3 : 2 + 1 < (C 0 (39 :: (e ++ 39 :: l))).length := pk_lt (a := 2) (by rw [p2]; decide)
    rw [atL_succ _ _ 2 h3, decL_low (by decide)]
    show 1 + atL (e ++ 39 :: l) 2 = _
    have h2 : 1 + 1 < (C 0 (e ++ 39 :: l)).length := pk_lt (a := 1) (by rw [← pk_low1 (b := 39) (by decide) _ 1, p2]; decide)
    rw [hbt, List.cons_append] at h2 ⊢
    rw [atL_succ _ _ 1 h2, ← List.cons_append, ← hbt, hd']
    show 1 + (e.length + atL ((e ++ 39 :: l).drop e.length) 1) = _
    rw [hdr, atL_low (by decide)]
    simp; omega

/-! ### Between tokens -/
def Blk (b : List UInt8) (nl : Int) : Prop := ∀ l line acc, Stp (b ++ l) line acc l (line + nl) acc
theorem Blk.nil : Blk [] 0 := fun l line acc => by rw [Int.add_zero]; exact Stp.refl _ _ _
theorem Blk.append {b c : List UInt8} {m n : Int} (h : Blk b m) (k : Blk c n) : Blk (b ++ c) (m + n) := fun l line acc => by
  rw [List.append_assoc, ← Int.add_assoc]
  exact (h _ _ _).trans (k _ _ _)
theorem blk_one {b : UInt8} (h : b = 32 ∨ b = 9 ∨ b = 13) : Blk [b] 0 := fun l line acc => by
  have hlow : b.toNat < 128 := by rcases h with rfl | rfl | rfl <;> decide
  have p0 : pk ([b] ++ l) 0 = (b.toNat : Int) := pk_low hlow _
  have ha : act ([b] ++ l) = .go 1 0 := by
    rw [act, p0]
    rcases h with rfl | rfl | rfl <;> rfl
  have := Stp.go line acc (by simp) ha
  rw [show atL ([b] ++ l) 1 = 1 from atL_low hlow _] at this
  exact this
theorem blk_nl : Blk [10] 1 := fun l line acc => by
  have p0 : pk ([10] ++ l) 0 = 10 := pk_low (by decide) _
  have ha : act ([10] ++ l) = .go 1 1 := by rw [act, p0]; rfl
  have := Stp.go line acc (by simp) ha
  rw [show atL ([10] ++ l) 1 = 1 from atL_low (by decide) _] at this
  exact this
/-- A comment. -/
theorem blk_comment {b : List UInt8} (h : ∀ l, RunTo nfB (b ++ 10 :: l) (10 :: l)) : Blk (47 :: 47 :: b ++ [10]) 1 := fun l line acc => by
  have e0 : 47 :: 47 :: b ++ [10] ++ l = 47 :: 47 :: (b ++ 10 :: l) := by simp
  rw [e0]
  have hr : RunTo nfB (47 :: 47 :: (b ++ 10 :: l)) (10 :: l) := RunTo.low (by decide) rfl (RunTo.low (by decide) rfl (h l))
  obtain ⟨h1, h2, h3⟩ := hr
  have p0 : pk (47 :: 47 :: (b ++ 10 :: l)) 0 = 47 := pk_low (by decide) _
  have p1 : pk (47 :: 47 :: (b ++ 10 :: l)) 1 = 47 := (pk_low1 (by decide) _ 0).trans (pk_low (by decide) _)
  have h4 : pk (10 :: l) 0 = 10 := pk_low (by decide) _
  have ha : act (47 :: 47 :: (b ++ 10 :: l)) = .go (spanL nfB (47 :: 47 :: (b ++ 10 :: l))) 0 := by
    rw [act, p0, p1, h3, h4, if_neg (by decide), if_neg (by decide), if_pos ⟨rfl, rfl⟩, if_neg (by decide)]
  have := Stp.go line acc (by simp) ha
  rw [h2, Int.add_zero] at this
  exact this.trans (blk_nl l line acc)
end Go.Proofs.YteapohlamngkpaaDoor
