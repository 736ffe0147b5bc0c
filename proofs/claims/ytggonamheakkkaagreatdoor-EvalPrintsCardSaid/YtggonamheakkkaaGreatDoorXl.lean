/-
  A run of closed code by the kernel: a region whose order is drawn. Its operations are run once, in the order of the text; what else could come first is looked at.
-/
import Derived.Test.YtggonamheakkkaaGreatDoorXk
namespace Go.Xq
open Go.RowKit
set_option linter.unusedVariables false

/-! ### Sets of operations as numbers -/
noncomputable def bitX (m i : Nat) : Bool := Nat.beq (Nat.land (Nat.shiftRight m i) 1) 1

theorem bitX_eq (m i : Nat) : bitX m i = m.testBit i := by
  have h1 : Nat.land (Nat.shiftRight m i) 1 = (m >>> i) &&& 1 := rfl
  have h2 : m.testBit i = decide ((m >>> i) &&& 1 = 1) := by
    rw [Nat.testBit, Nat.and_comm]
    have : (m >>> i) &&& 1 = (m >>> i) % 2 := Nat.and_one_is_mod _
    rw [this]
    rcases Nat.mod_two_eq_zero_or_one (m >>> i) with h | h <;> rw [h] <;> rfl
  rw [bitX, h1, nbeq, h2]

theorem bitX_lor (a b i : Nat) : bitX (Nat.lor a b) i = (bitX a i || bitX b i) := by
  simp only [bitX_eq]
  exact Nat.testBit_or a b i

theorem bitX_land (a b i : Nat) : bitX (Nat.land a b) i = (bitX a i && bitX b i) := by
  simp only [bitX_eq]
  exact Nat.testBit_and a b i

theorem bitX_one (i j : Nat) : bitX (Nat.shiftLeft 1 i) j = decide (i = j) := by
  rw [bitX_eq]
  show (1 <<< i).testBit j = _
  rw [Nat.one_shiftLeft, Nat.testBit_two_pow]

theorem bitX_zero (i : Nat) : bitX 0 i = false := by rw [bitX_eq]; exact Nat.zero_testBit i

/-! ### What the text says of a region: who stands behind whom -/
noncomputable def bindsX (e : Edge) : Bool := match e.ground with
  | .textOnly _ => false
  | .gcOnly _ => false
  | _ => true

theorem bindsX_eq (e : Edge) : Region.binds .any e = bindsX e := by
  unfold Region.binds bindsX
  cases e.ground <;> rfl

noncomputable def ancE (as : Tr Nat) : List Edge → Nat → Option Nat
  | [], m => some m
  | e :: r, m => match bindsX e with
    | false => ancE as r m
    | true => match as.get e.on with
      | none => none
      | some a => ancE as r (Nat.lor (Nat.lor m (Nat.shiftLeft 1 e.on)) a)

theorem ancE_ok {as : Tr Nat} : ∀ {es : List Edge} {m a : Nat}, ancE as es m = some a →
    (∀ l, bitX a l = true ↔ bitX m l = true ∨ ∃ e ∈ es, bindsX e = true ∧ (l = e.on ∨ ∃ a', as.get e.on = some a' ∧ bitX a' l = true)) ∧ (∀ e ∈ es, bindsX e = true → ∃ a', as.get e.on = some a')
  | [], m, a, h => by
    simp only [ancE, Option.some.injEq] at h; subst h
    exact ⟨fun l => ⟨Or.inl, fun h => h.elim id (fun ⟨e, he, _⟩ => nomatch he)⟩, fun e he => nomatch he⟩
  | e :: r, m, a, h => by
    simp only [ancE] at h
    split at h
    · rename_i hb
      obtain ⟨h1, h2⟩ := ancE_ok h
      refine ⟨fun l => (h1 l).trans ⟨?_, ?_⟩, ?_⟩
      · rintro (h | ⟨e', he', k⟩)
        · exact Or.inl h
        · exact Or.inr ⟨e', List.mem_cons_of_mem _ he', k⟩
      · rintro (h | ⟨e', he', k1, k2⟩)
        · exact Or.inl h
        · rcases List.mem_cons.1 he' with rfl | he'
          · rw [hb] at k1; cases k1
          · exact Or.inr ⟨e', he', k1, k2⟩
      · intro e' he' k
        rcases List.mem_cons.1 he' with rfl | he'
        · rw [hb] at k; cases k
        · exact h2 e' he' k
    · rename_i hb
      split at h
      · cases h
      rename_i a' ha'
      obtain ⟨h1, h2⟩ := ancE_ok h
      refine ⟨fun l => (h1 l).trans ⟨?_, ?_⟩, ?_⟩
      · rintro (h | ⟨e', he', k⟩)
        · simp only [bitX_lor, bitX_one, Bool.or_eq_true, decide_eq_true_eq] at h
          rcases h with (h | h) | h
          · exact Or.inl h
          · exact Or.inr ⟨e, List.mem_cons_self, hb, Or.inl h.symm⟩
          · exact Or.inr ⟨e, List.mem_cons_self, hb, Or.inr ⟨a', ha', h⟩⟩
        · exact Or.inr ⟨e', List.mem_cons_of_mem _ he', k⟩
      · simp only [bitX_lor, bitX_one, Bool.or_eq_true, decide_eq_true_eq]
        rintro (h | ⟨e', he', k1, k2⟩)
        · exact Or.inl (Or.inl (Or.inl h))
        · rcases List.mem_cons.1 he' with rfl | he'
          · rcases k2 with k2 | ⟨a2, g1, g2⟩
            · exact Or.inl (Or.inl (Or.inr k2.symm))
            · rw [ha'] at g1; cases g1; exact Or.inl (Or.inr g2)
          · exact Or.inr ⟨e', he', k1, k2⟩
      · intro e' he' k
        rcases List.mem_cons.1 he' with rfl | he'
        · exact ⟨a', ha'⟩
        · exact h2 e' he' k

/-- Each temporary that the region sets is set by one operation. -/
noncomputable def dstsX : List Oper → Nat → Tr Nat → Option (Tr Nat)
  | [], _, dm => some dm
  | o :: r, i, dm => match o.dst with
    | none => dstsX r (Nat.succ i) dm
    | some d => match dm.get d with
      | some _ => none
      | none => match Tr.upd 24 dm d (some i) with
        | some dm' => dstsX r (Nat.succ i) dm'
        | none => none

theorem dstsX_ok : ∀ {ops : List Oper} {i : Nat} {dm dm' : Tr Nat}, dstsX ops i dm = some dm' → (∀ d j, dm.get d = some j → dm'.get d = some j) ∧ ∀ k o d, ops[k]? = some o → o.dst = some d → dm'.get d = some (i + k)
  | [], i, dm, dm', h => by simp only [dstsX, Option.some.injEq] at h; subst h; exact ⟨fun _ _ h => h, fun k o d h => by simp at h⟩
  | o :: r, i, dm, dm', h => by
    simp only [dstsX] at h
    split at h
    · rename_i hd
      obtain ⟨h1, h2⟩ := dstsX_ok h
      refine ⟨h1, fun k o' d hk ho => ?_⟩
      cases k with
      | zero => simp only [List.getElem?_cons_zero, Option.some.injEq] at hk; subst hk; rw [hd] at ho; cases ho
      | succ k => rw [h2 k o' d (by simpa using hk) ho]; congr 1; simp only [Nat.succ_eq_add_one]; omega
    · rename_i d hd
      split at h
      · cases h
      rename_i hn
      split at h
      case h_2 => cases h
      rename_i dm1 hu
      obtain ⟨h1, h2⟩ := dstsX_ok h
      have hg := Tr.get_upd _ _ _ _ _ hu
      refine ⟨fun e j he => h1 e j ?_, fun k o' d' hk ho => ?_⟩
      · rw [hg, if_neg (by intro e'; subst e'; rw [hn] at he; cases he)]; exact he
      · cases k with
        | zero =>
          simp only [List.getElem?_cons_zero, Option.some.injEq] at hk; subst hk
          rw [hd] at ho; cases ho
          exact h1 d i (by rw [hg, if_pos rfl])
        | succ k => rw [h2 k o' d' (by simpa using hk) ho]; congr 1; simp only [Nat.succ_eq_add_one]; omega

noncomputable def looksL (dm : Tr Nat) (anc : Nat) : List Operand → Bool
  | [] => true
  | x :: r => match x with
    | .tmp u => match dm.get u with
      | some j => match bitX anc j with
        | true => looksL dm anc r
        | false => false
      | none => looksL dm anc r
    | _ => looksL dm anc r

theorem looksL_ok {dm : Tr Nat} {anc : Nat} : ∀ {xs : List Operand}, looksL dm anc xs = true → ∀ u j, Operand.tmp u ∈ xs → dm.get u = some j → bitX anc j = true
  | [], _, u, j, h, _ => nomatch h
  | x :: r, h, u, j, hm, hd => by
    simp only [looksL] at h
    rcases List.mem_cons.1 hm with rfl | hm2
    · simp only [hd] at h
      split at h
      · assumption
      · cases h
    · clear hm
      split at h
      · split at h
        · split at h
          · exact looksL_ok h u j hm2 hd
          · cases h
        · exact looksL_ok h u j hm2 hd
      · exact looksL_ok h u j hm2 hd

noncomputable def looksX (dm : Tr Nat) (anc : Nat) (o : Oper) : Bool :=
  match looksL dm anc o.op.operands.toList with
  | false => false
  | true => match o.guard with
    | none => true
    | some (g, _) => bitX anc g

noncomputable def statX (dm : Tr Nat) : List Oper → Nat → Tr Nat → Option (Tr Nat)
  | [], _, as => some as
  | o :: r, i, as => match ancE as o.after.toList 0 with
    | none => none
    | some a => match looksX dm a o with
      | false => none
      | true => match Tr.upd 24 as i (some a) with
        | some as' => statX dm r (Nat.succ i) as'
        | none => none

structure StatP (dm as : Tr Nat) (i : Nat) (o : Oper) : Prop where
  ex : ∃ a, as.get i = some a ∧ looksX dm a o = true ∧ (∀ l, bitX a l = true → l < i ∧ ∃ e ∈ o.after.toList, bindsX e = true ∧ (l = e.on ∨ ∃ a', as.get e.on = some a' ∧ bitX a' l = true)) ∧ (∀ e ∈ o.after.toList, bindsX e = true → e.on < i)

theorem statX_ok {dm : Tr Nat} : ∀ {ops : List Oper} {i : Nat} {as as' : Tr Nat}, statX dm ops i as = some as' → (∀ j a, as.get j = some a → j < i ∧ ∀ l, bitX a l = true → l < j) →
    (∀ j a, as.get j = some a → as'.get j = some a) ∧ ∀ k o, ops[k]? = some o → StatP dm as' (i + k) o
  | [], i, as, as', h, _ => by simp only [statX, Option.some.injEq] at h; subst h; exact ⟨fun _ _ h => h, fun k o h => by simp at h⟩
  | o :: r, i, as, as', h, hb => by
    simp only [statX] at h
    split at h
    · cases h
    rename_i a ha
    split at h
    · cases h
    rename_i hl
    split at h
    case h_2 => cases h
    rename_i as1 hu
    have hg := Tr.get_upd _ _ _ _ _ hu
    obtain ⟨e1, e2⟩ := ancE_ok ha
    have hbits : ∀ l, bitX a l = true → l < i := by
      intro l hl
      rcases (e1 l).1 hl with h | ⟨e, he, k1, k2 | ⟨a', k2, k3⟩⟩
      · rw [bitX_zero] at h; cases h
      · obtain ⟨a', ha'⟩ := e2 e he k1
        rw [k2]; exact (hb _ _ ha').1
      · have := hb _ _ k2
        exact Nat.lt_trans (this.2 l k3) this.1
    have hb1 : ∀ j a, as1.get j = some a → j < i + 1 ∧ ∀ l, bitX a l = true → l < j := by
      intro j a' hj
      rw [hg] at hj
      by_cases e : j = i
      · rw [if_pos e] at hj; cases hj; subst e; exact ⟨by omega, hbits⟩
      · rw [if_neg e] at hj
        have := hb j a' hj
        exact ⟨by omega, this.2⟩
    obtain ⟨h1, h2⟩ := statX_ok (i := i + 1) h hb1
    have old : ∀ j a, as.get j = some a → as1.get j = some a := by
      intro j a' hj
      rw [hg, if_neg (by intro e; subst e; have := (hb _ _ hj).1; omega)]; exact hj
    refine ⟨fun j a' hj => h1 j a' (old j a' hj), fun k o' hk => ?_⟩
    cases k with
    | zero =>
      simp only [List.getElem?_cons_zero, Option.some.injEq] at hk; subst hk
      refine ⟨a, h1 i a (by rw [hg, if_pos rfl]), hl, fun l hl' => ⟨hbits l hl', ?_⟩, fun e he hbe => ?_⟩
      · rcases (e1 l).1 hl' with h | ⟨e, he, k1, k2 | ⟨a', k2, k3⟩⟩
        · rw [bitX_zero] at h; cases h
        · exact ⟨e, he, k1, Or.inl k2⟩
        · exact ⟨e, he, k1, Or.inr ⟨a', h1 _ _ (old _ _ k2), k3⟩⟩
      · obtain ⟨a', ha'⟩ := e2 e he hbe
        exact (hb _ _ ha').1
    | succ k =>
      have := h2 k o' (by simpa using hk)
      rw [show i + (k + 1) = i + 1 + k by omega]; exact this

/-- What is known of a region's text. -/
noncomputable def regStat (ops : List Oper) : Option (Tr Nat) :=
  match dstsX ops 0 .nil with
  | none => none
  | some dm => statX dm ops 0 .nil

theorem regStat_ok {ops : List Oper} {as : Tr Nat} (h : regStat ops = some as) : ∃ dm : Tr Nat, (∀ k o d, ops[k]? = some o → o.dst = some d → dm.get d = some k) ∧ ∀ k o, ops[k]? = some o → StatP dm as k o := by
  simp only [regStat] at h
  split at h
  · cases h
  rename_i dm hdm
  obtain ⟨_, h2⟩ := dstsX_ok hdm
  obtain ⟨_, h3⟩ := statX_ok h (fun j a hj => by rw [Tr.get_nil] at hj; cases hj)
  exact ⟨dm, fun k o d a b => by have := h2 k o d a b; simpa using this, fun k o a => by have := h3 k o a; simpa using this⟩
end Go.Xq
