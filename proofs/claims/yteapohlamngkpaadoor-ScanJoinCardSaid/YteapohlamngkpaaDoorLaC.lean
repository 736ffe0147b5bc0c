/-
  Layer 2's law: its words are tokens, its blanks stand between.
-/
import Derived.Test.YteapohlamngkpaaDoorLaB
import Derived.Test.YteapohlamngkpaaDoorScH
namespace Go.Proofs.YteapohlamngkpaaDoor
open Go.Pv
attribute [local irreducible] Go.Pv.CallP Go.Pv.gsplit Go.Pv.ToLe Go.Pv.LoopV
set_option linter.unusedVariables false
set_option linter.unusedSimpArgs false
set_option maxRecDepth 100000
set_option maxHeartbeats 4000000

theorem decL_two {b0 b1 : UInt8} (h0 : b0.toNat / 32 = 6) (h1 : b1.toNat / 64 = 2) (hc : 128 ≤ b0.toNat % 32 * 64 + b1.toNat % 64) (l : List UInt8) : decL (b0 :: b1 :: l) = (b0.toNat % 32 * 64 + b1.toNat % 64, 2) := by
  unfold decL Utf8.decode
  have e0 : ((ByteArray.mk (b0 :: b1 :: l).toArray).get! (0 + 0)).toNat = b0.toNat := by simp [ByteArray.get!]
  have e1 : ((ByteArray.mk (b0 :: b1 :: l).toArray).get! (0 + 1)).toNat = b1.toNat := by simp [ByteArray.get!]
  have es : (ByteArray.mk (b0 :: b1 :: l).toArray).size = l.length + 2 := by simp [ByteArray.size]
  simp only [e0, e1, es]
  rw [if_neg (by omega), if_pos (by simp; omega), if_pos (by omega)]

theorem decL_three {b0 b1 b2 : UInt8} (h0 : b0.toNat / 16 = 14) (h1 : b1.toNat / 64 = 2) (h2 : b2.toNat / 64 = 2) (hc : 2048 ≤ b0.toNat % 16 * 4096 + b1.toNat % 64 * 64 + b2.toNat % 64) (hv : b0.toNat % 16 * 4096 + b1.toNat % 64 * 64 + b2.toNat % 64 < 55296) (l : List UInt8) : decL (b0 :: b1 :: b2 :: l) = (b0.toNat % 16 * 4096 + b1.toNat % 64 * 64 + b2.toNat % 64, 3) := by
  unfold decL Utf8.decode
  have e0 : ((ByteArray.mk (b0 :: b1 :: b2 :: l).toArray).get! (0 + 0)).toNat = b0.toNat := by simp [ByteArray.get!]
  have e1 : ((ByteArray.mk (b0 :: b1 :: b2 :: l).toArray).get! (0 + 1)).toNat = b1.toNat := by simp [ByteArray.get!]
  have e2 : ((ByteArray.mk (b0 :: b1 :: b2 :: l).toArray).get! (0 + 2)).toNat = b2.toNat := by simp [ByteArray.get!]
  have es : (ByteArray.mk (b0 :: b1 :: b2 :: l).toArray).size = l.length + 3 := by simp [ByteArray.size]
  simp only [e0, e1, e2, es]
  rw [if_neg (by omega), if_neg (by simp; omega), if_pos (by simp; omega), if_pos (by simp [Utf8.valid]; omega)]

theorem u8_ofNat {n : Nat} (h : n < 256) : (UInt8.ofNat n).toNat = n := by simp; omega

theorem runeStr_dec {r : Int} (h1 : 161 ≤ r) (h2 : r < 8400) : runeStr r ≠ [] ∧ ∀ l, decL (runeStr r ++ l) = (r.toNat, (runeStr r).length) := by
  obtain ⟨c, rfl⟩ : ∃ c : Nat, r = c := ⟨r.toNat, by omega⟩
  have hv : Utf8.valid (c : Int) = true := by simp [Utf8.valid]; omega
  by_cases h3 : c < 2048
  · have e : runeStr (c : Int) = [UInt8.ofNat (192 + c / 64), UInt8.ofNat (128 + c % 64)] := by
      unfold runeStr Utf8.encode
      simp only [hv, if_true, Int.toNat_natCast]
      rw [if_neg (by omega), if_pos (by omega)]
    rw [e]
    refine ⟨by simp, fun l => ?_⟩
    have a0 : (UInt8.ofNat (192 + c / 64)).toNat = 192 + c / 64 := u8_ofNat (by omega)
    have a1 : (UInt8.ofNat (128 + c % 64)).toNat = 128 + c % 64 := u8_ofNat (by omega)
    show decL (_ :: _ :: l) = _
    rw [decL_two (by rw [a0]; omega) (by rw [a1]; omega) (by rw [a0, a1]; omega), a0, a1]
    simp only [Int.toNat_natCast, List.length_cons, List.length_nil, Prod.mk.injEq]
    exact ⟨by omega, trivial⟩
  · have e : runeStr (c : Int) = [UInt8.ofNat (224 + c / 4096), UInt8.ofNat (128 + c / 64 % 64), UInt8.ofNat (128 + c % 64)] := by
      unfold runeStr Utf8.encode
      simp only [hv, if_true, Int.toNat_natCast]
      rw [if_neg (by omega), if_neg (by omega), if_pos (by omega)]
    rw [e]
    refine ⟨by simp, fun l => ?_⟩
    have a0 : (UInt8.ofNat (224 + c / 4096)).toNat = 224 + c / 4096 := u8_ofNat (by omega)
    have a1 : (UInt8.ofNat (128 + c / 64 % 64)).toNat = 128 + c / 64 % 64 := u8_ofNat (by omega)
    have a2 : (UInt8.ofNat (128 + c % 64)).toNat = 128 + c % 64 := u8_ofNat (by omega)
    show decL (_ :: _ :: _ :: l) = _
    rw [decL_three (by rw [a0]; omega) (by rw [a1]; omega) (by rw [a2]; omega) (by rw [a0, a1, a2]; omega) (by rw [a0, a1, a2]; omega), a0, a1, a2]
    simp only [Int.toNat_natCast, List.length_cons, List.length_nil, Prod.mk.injEq]
    exact ⟨by omega, trivial⟩

/-- A blank stands first. -/
def OkB (l : List UInt8) : Prop := ∃ c t, l = c :: t ∧ (c = 32 ∨ c = 10 ∨ c = 9)
theorem OkB.first {l : List UInt8} (h : OkB l) : pk l 0 = 32 ∨ pk l 0 = 10 ∨ pk l 0 = 9 := by
  obtain ⟨c, t, rfl, hc⟩ := h
  rcases hc with rfl | rfl | rfl
  · exact Or.inl (pk_low (by decide) _)
  · exact Or.inr (Or.inl (pk_low (by decide) _))
  · exact Or.inr (Or.inr (pk_low (by decide) _))
theorem OkB.part {l : List UInt8} (h : OkB l) : partB (pk l 0) = false := by rcases h.first with e | e | e <;> rw [e] <;> rfl
theorem OkB.digit {l : List UInt8} (h : OkB l) : digitB (pk l 0) = false := by rcases h.first with e | e | e <;> rw [e] <;> rfl

/-! ### Names -/
def okName (t : List UInt8) : Bool := match t with
  | [] => false
  | b :: t => letterB b.toNat && t.all (fun c => partB c.toNat) && !wordB (b :: t) && nameB (b :: t)
theorem okName_tk {w : List UInt8} (h : okName w = true) : Tk (fun l => partB (pk l 0) = false) w 1 0 := by
  cases w with
  | nil => cases h
  | cons b t =>
    simp only [okName, Bool.and_eq_true, List.all_eq_true, Bool.not_eq_true'] at h
    exact tk_part h.1.1.1 h.1.1.2 (Or.inr ⟨h.1.2, h.2, rfl⟩)
def okWord (t : List UInt8) : Bool := match t with
  | [] => false
  | b :: t => letterB b.toNat && t.all (fun c => partB c.toNat) && wordB (b :: t)
theorem okWord_tk {w : List UInt8} (h : okWord w = true) : Tk (fun l => partB (pk l 0) = false) w 2 0 := by
  cases w with
  | nil => cases h
  | cons b t =>
    simp only [okWord, Bool.and_eq_true, List.all_eq_true] at h
    exact tk_part h.1.1 h.1.2 (Or.inl ⟨h.2, rfl⟩)
theorem varB_name : (List.range 312).all (fun k => okName (varB k)) = true := by decide +kernel
theorem varL_name (c : Int) : okName (varL c) = true := by
  have h1 := pickI_ge c (n := 312) (by decide)
  have h2 := pickI_lt c (n := 312) (by decide)
  exact List.all_eq_true.1 varB_name _ (List.mem_range.2 (by omega))
theorem kwS_word : kwS.all okWord = true := by decide +kernel

/-! ### Numbers -/
theorem dig_nat (n : Nat) : (dig n).toNat = 48 + n % 10 := u8_ofNat (by omega)
theorem numL_ne (n : Nat) : numL n ≠ [] := by
  rw [numL]; split <;> simp
theorem numL_dig (n : Nat) : ∀ b ∈ numL n, digitB b.toNat = true := by
  induction n using Nat.strongRecOn with
  | _ n ih =>
    intro b hb
    have hd : digitB (dig n).toNat = true := by simp only [digitB, dig_nat, decide_eq_true_eq]; omega
    by_cases h : n < 10
    · rw [numL_lt h] at hb
      simp at hb; subst hb; exact hd
    · rw [numL_ge h] at hb
      simp only [List.mem_append, List.mem_singleton] at hb
      rcases hb with hb | rfl
      · exact ih _ (by omega) b hb
      · exact hd
theorem numL_val (n : Nat) : decVal (numL n) = n := by
  induction n using Nat.strongRecOn with
  | _ n ih =>
    by_cases h : n < 10
    · rw [numL_lt h]
      simp only [decVal, List.foldl_cons, List.foldl_nil, dig_nat]; omega
    · rw [numL_ge h, decVal_snoc, ih _ (by omega), dig_nat]; omega
theorem numL_head (n : Nat) (h : 0 < n) : byteAt (numL n) 0 ≠ 48 := by
  induction n using Nat.strongRecOn with
  | _ n ih =>
    by_cases h1 : n < 10
    · rw [numL_lt h1]
      simp only [byteAt]
      show ((dig n).toNat : Int) ≠ 48
      rw [dig_nat]; omega
    · rw [numL_ge h1]
      have := ih (n / 10) (by omega) (by omega)
      have hne := numL_ne (n / 10)
      cases hc : numL (n / 10) with
      | nil => exact absurd hc hne
      | cons b t => rw [hc] at this; exact this
theorem numL_tk {n : Nat} (hn : n ≤ 9223372036854775807) : Tk (fun l => digitB (pk l 0) = false) (numL n) 3 n := by
  have := tk_num (numL_ne n) (numL_dig n) (by rw [numL_val]; exact hn) (by
    rintro ⟨h1, h2⟩
    by_cases h : 0 < n
    · exact numL_head n h h2
    · have : n = 0 := by omega
      subst this
      rw [numL_lt (by decide)] at h1
      simp at h1)
  rwa [numL_val] at this

/-! ### Signs -/
theorem signS_tk : ∀ w ∈ signS, Tk OkB w 4 0 := by
  have key : ∀ w ∈ signS, (∃ b, w = [b] ∧ one b.toNat = true) ∨ (∃ b c, w = [b, c] ∧ two b.toNat c.toNat = true) := by
    intro w hw
    simp only [signS, List.mem_cons, List.not_mem_nil, or_false] at hw
    rcases hw with rfl | rfl | rfl | rfl | rfl | rfl | rfl | rfl | rfl | rfl | rfl | rfl | rfl | rfl | rfl | rfl | rfl | rfl | rfl | rfl | rfl | rfl | rfl | rfl | rfl | rfl | rfl
    all_goals first
      | exact Or.inl ⟨_, rfl, by decide⟩
      | exact Or.inr ⟨_, _, rfl, by decide⟩
  intro w hw
  rcases key w hw with ⟨b, rfl, h⟩ | ⟨b, c, rfl, h⟩
  · refine (tk_one h).mono fun l hl => ⟨?_, fun hc => ?_⟩
    · rcases hl.first with e | e | e <;> rw [e] <;> simp [two]
    · rcases hl.first with e | e | e <;> rw [e] at hc <;> omega
  · exact (tk_two h).mono fun l hl => trivial

/-- What number a raw word is. -/
def wordV (n c : Int) : Int :=
  if (pickI n 44).toNat < 37 then 0 else if (pickI n 44).toNat < 40 then pickI c 1099511627776 else if (pickI n 44).toNat = 40 then 161 + pickI c 8192 else 0

theorem word_tk (n c : Int) : Tk OkB (wordI n c).1 (wordI n c).2 (wordV n c) := by
  have h1 := pickI_ge n (n := 44) (by decide)
  have h2 := pickI_lt n (n := 44) (by decide)
  unfold wordI wordV
  obtain ⟨k, hk⟩ : ∃ k : Nat, pickI n 44 = k := ⟨(pickI n 44).toNat, by omega⟩
  rw [hk, Int.toNat_natCast]
  by_cases c1 : k < 10
  · rw [if_pos c1, if_pos (by omega)]
    have hm : kwS.getD k [] ∈ kwS := by rw [List.getD_eq_getElem?_getD, List.getElem?_eq_getElem c1]; exact List.getElem_mem _
    exact (okWord_tk (List.all_eq_true.1 kwS_word _ hm)).mono fun l hl => hl.part
  rw [if_neg c1]
  by_cases c2 : k < 37
  · rw [if_pos c2, if_pos c2]
    have hm : signS.getD (k - 10) [] ∈ signS := by rw [List.getD_eq_getElem?_getD, List.getElem?_eq_getElem (by show k - 10 < 27; omega)]; exact List.getElem_mem _
    exact signS_tk _ hm
  rw [if_neg c2, if_neg c2]
  by_cases c3 : k < 40
  · rw [if_pos c3, if_pos c3]
    have g1 := pickI_ge c (n := 1099511627776) (by decide)
    have g2 := pickI_lt c (n := 1099511627776) (by decide)
    have := numL_tk (n := (pickI c 1099511627776).toNat) (by omega)
    rw [show (((pickI c 1099511627776).toNat : Nat) : Int) = pickI c 1099511627776 by omega] at this
    exact this.mono fun l hl => hl.digit
  rw [if_neg c3, if_neg c3]
  by_cases c4 : k = 40
  · rw [if_pos c4, if_pos c4]
    have g3 := pickI_ge c (n := 8192) (by decide)
    have g4 := pickI_lt c (n := 8192) (by decide)
    obtain ⟨e1, e2⟩ := runeStr_dec (r := 161 + pickI c 8192) (by omega) (by omega)
    exact (tk_quot e1 e2 (by omega)).mono fun l hl => trivial
  · rw [if_neg c4, if_neg c4]
    exact (okName_tk (varL_name c)).mono fun l hl => hl.part

/-! ### Blanks -/
theorem blkL {l : List UInt8} (h : ∀ b ∈ l, b = 32 ∨ b = 9 ∨ b = 13) : Blk l 0 := by
  induction l with
  | nil => exact Blk.nil
  | cons b l ih => exact Blk.append (blk_one (h b (by simp))) (ih fun c hc => h c (by simp [hc]))
def nfL (b : List UInt8) : Bool := b.all fun c => decide (c.toNat < 128) && nfB c.toNat
theorem nfL_run {b : List UInt8} (h : nfL b = true) (l : List UInt8) : RunTo nfB (b ++ 10 :: l) (10 :: l) := by
  induction b with
  | nil => exact RunTo.stop rfl (by show nfB (pk (10 :: l) 0) = false; rw [pk_low (by decide)]; rfl)
  | cons c b ih =>
    simp only [nfL, List.all_cons, Bool.and_eq_true, decide_eq_true_eq] at h
    exact RunTo.low h.1.1 h.1.2 (ih (by simpa [nfL] using h.2))
theorem nf_1 : nfL [32, 120, 32, 61, 32, 49, 59] = true := by decide
theorem blk_c1 : Blk [47, 47, 32, 120, 32, 61, 32, 49, 59, 10] 1 := blk_comment (b := [32, 120, 32, 61, 32, 49, 59]) (nfL_run nf_1)
theorem blk_c2 : Blk [47, 47, 10] 1 := blk_comment (b := []) (nfL_run rfl)
theorem run_c3 (h : nfL [32, 39, 97] = true) (l : List UInt8) : RunTo nfB (195 :: 169 :: ([32, 39, 97] ++ 10 :: l)) (10 :: l) := by
    have hd : decL (195 :: 169 :: ([32, 39, 97] ++ 10 :: l)) = (233, 2) := decL_two (by decide) (by decide) (by decide) _
    have h2 : RunTo nfB ([32, 39, 97] ++ 10 :: l) (10 :: l) := nfL_run h l
    refine RunTo.cons (l := 169 :: ([32, 39, 97] ++ 10 :: l)) (by rw [hd]; decide) ?_
    rw [hd]
    exact h2
theorem blk_c3 : Blk [47, 47, 195, 169, 32, 39, 97, 10] 1 := blk_comment (b := [195, 169, 32, 39, 97]) (run_c3 (by decide))
theorem blank_blk : ∀ b ∈ blankS, Blk b (feedsN b) ∧ OkB b := by
  intro b hb
  simp only [blankS, List.mem_cons, List.not_mem_nil, or_false] at hb
  have c1 := blk_c1
  have c2 := blk_c2
  have c3 := blk_c3
  have s1 : Blk [32] 0 := blk_one (Or.inl rfl)
  have mk : ∀ {b : List UInt8} {n : Int} {m : Nat} {c : UInt8} {r : List UInt8}, Blk b n → feedsN b = m → n = (m : Int) → b = c :: r → (c = 32 ∨ c = 10 ∨ c = 9) → Blk b (feedsN b) ∧ OkB b := by
    intro b n m c r h1 h2 h3 h4 h5
    rw [h2, ← h3]
    exact ⟨h1, c, r, h4, h5⟩
  rcases hb with rfl | rfl | rfl | rfl | rfl | rfl | rfl | rfl
  · exact mk (m := 0) s1 (by decide) rfl rfl (by decide)
  · exact mk (m := 0) (blkL (l := [32, 32]) (by decide)) (by decide) rfl rfl (by decide)
  · exact mk (m := 1) blk_nl (by decide) rfl rfl (by decide)
  · exact mk (m := 0) (blkL (l := [32, 9, 13, 32]) (by decide)) (by decide) rfl rfl (by decide)
  · exact mk (m := 2) (blk_nl.append blk_nl) (by decide) rfl rfl (by decide)
  · exact mk (m := 1) (s1.append c1) (by decide) rfl rfl (by decide)
  · exact mk (m := 1) (s1.append c2) (by decide) rfl rfl (by decide)
  · exact mk (m := 1) ((s1.append c3).append s1) (by decide) rfl rfl (by decide)
theorem blankL_blk (l : List Int) (i : Nat) : Blk (blankL l i) (feedsN (blankL l i)) ∧ OkB (blankL l i) := by
  unfold blankL
  split
  · exact ⟨blk_one (Or.inl rfl), _, _, rfl, by decide⟩
  · have h1 := pickI_ge (l.getD i 0) (n := 8) (by decide)
    have h2 := pickI_lt (l.getD i 0) (n := 8) (by decide)
    have hlt : (pickI (l.getD i 0) 8).toNat < blankS.length := by show _ < 8; omega
    have hm : blankS.getD (pickI (l.getD i 0) 8).toNat [] ∈ blankS := by rw [List.getD_eq_getElem?_getD, List.getElem?_eq_getElem hlt]; exact List.getElem_mem _
    exact blank_blk _ hm
theorem OkB.append {b : List UInt8} (h : OkB b) (l : List UInt8) : OkB (b ++ l) := by
  obtain ⟨c, t, rfl, hc⟩ := h
  exact ⟨c, t ++ l, rfl, hc⟩
end Go.Proofs.YteapohlamngkpaaDoor
