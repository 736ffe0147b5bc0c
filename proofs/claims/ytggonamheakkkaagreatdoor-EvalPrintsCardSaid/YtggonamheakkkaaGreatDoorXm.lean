/-
  A run of closed code by the kernel: a region whose order is drawn, run once.
-/
import Derived.Test.YtggonamheakkkaaGreatDoorXl
namespace Go.Xq
open Go.RowKit
set_option linter.unusedVariables false

/-- Memory between two operations that change it. -/
structure Ph where
  h : Tr AO
  n : Nat
  wm : Nat      -- the changing operations that came before
  am : Nat      -- all that those stand behind

inductive RK where
  | skip
  | quiet (k : Nat)
  | alloc (ao : AO)
  | write (k : Nat)

structure Rec where
  i : Nat
  o : Oper
  anc : Nat
  v : SV
  t : Tr SV
  k : RK

/-- New blocks of operations that stand before. -/
noncomputable def addA (n0 anc am : Nat) : List Rec → Tr AO → Option (Tr AO)
  | [], h => some h
  | r :: rs, h => match r.k with
    | .alloc ao => match bitX anc r.i with
      | false => addA n0 anc am rs h
      | true => match bitX am r.i with
        | true => addA n0 anc am rs h
        | false => match h.upd 48 (Nat.add n0 r.i) (some ao) with
          | none => none
          | some h' => addA n0 anc am rs h'
    | _ => addA n0 anc am rs h

theorem addA_sub {n0 anc am : Nat} : ∀ {rs : List Rec} {h h' : Tr AO}, addA n0 anc am rs h = some h' → ∀ id o, h'.get id = some o → h.get id = some o ∨ ∃ r ∈ rs, ∃ ao, r.k = .alloc ao ∧ bitX anc r.i = true ∧ bitX am r.i = false ∧ id = n0 + r.i ∧ o = ao
  | [], h, h', e, id, o, k => by simp only [addA, Option.some.injEq] at e; subst e; exact Or.inl k
  | r :: rs, h, h', e, id, o, k => by
    simp only [addA] at e
    have up : (h.get id = some o ∨ ∃ r ∈ rs, ∃ ao, r.k = .alloc ao ∧ bitX anc r.i = true ∧ bitX am r.i = false ∧ id = n0 + r.i ∧ o = ao) → h.get id = some o ∨ ∃ x ∈ r :: rs, ∃ ao, x.k = .alloc ao ∧ bitX anc x.i = true ∧ bitX am x.i = false ∧ id = n0 + x.i ∧ o = ao := by
      rintro (h | ⟨x, hx, h⟩)
      · exact Or.inl h
      · exact Or.inr ⟨x, List.mem_cons_of_mem _ hx, h⟩
    split at e
    · rename_i ao hk
      split at e
      · exact up (addA_sub e id o k)
      rename_i h1
      split at e
      · exact up (addA_sub e id o k)
      rename_i h2
      split at e
      · cases e
      rename_i h3 hu
      rcases addA_sub e id o k with h | ⟨x, hx, h⟩
      · rw [Tr.get_upd _ _ _ _ _ hu] at h
        by_cases e' : id = Nat.add n0 r.i
        · rw [if_pos e'] at h; cases h
          exact Or.inr ⟨r, List.mem_cons_self, _, hk, h1, h2, e', rfl⟩
        · rw [if_neg e'] at h; exact Or.inl h
      · exact Or.inr ⟨x, List.mem_cons_of_mem _ hx, h⟩
    · exact up (addA_sub e id o k)

/-- Nothing but a temporary is moved. -/
noncomputable def isMoveX (o : Oper) : Bool := match o.guard with
  | some _ => false
  | none => match o.op with
    | .move _ => true
    | _ => false

theorem isMoveX_ok {o : Oper} (h : isMoveX o = true) : o.guard = none ∧ ∃ x, o.op = .move x := by
  unfold isMoveX at h
  split at h
  · cases h
  rename_i hg
  split at h
  · rename_i x hx; exact ⟨hg, x, hx⟩
  · cases h

/-- All the rest stands behind an operation, but what is only moved. -/
noncomputable def lateX (as : Tr Nat) (i : Nat) : List Oper → Nat → Bool
  | [], _ => true
  | o :: r, j => match as.get j with
    | none => false
    | some a => match bitX a i with
      | true => lateX as i r (Nat.succ j)
      | false => match isMoveX o with
        | true => lateX as i r (Nat.succ j)
        | false => false

theorem lateX_ok {as : Tr Nat} {i : Nat} : ∀ {r : List Oper} {j : Nat}, lateX as i r j = true → ∀ k o, r[k]? = some o → ∃ a, as.get (j + k) = some a ∧ (bitX a i = true ∨ isMoveX o = true)
  | [], j, h, k, o, hk => by simp at hk
  | o :: r, j, h, k, o', hk => by
    have go : ∀ a, as.get j = some a → (bitX a i = true ∨ isMoveX o = true) → lateX as i r (Nat.succ j) = true → ∃ a, as.get (j + k) = some a ∧ (bitX a i = true ∨ isMoveX o' = true) := by
      intro a ha hb h
      cases k with
      | zero =>
        simp only [List.getElem?_cons_zero, Option.some.injEq] at hk
        subst hk
        exact ⟨a, ha, hb⟩
      | succ k =>
        have := lateX_ok h k o' (by simpa using hk)
        rw [show j + (k + 1) = Nat.succ j + k by simp only [Nat.succ_eq_add_one]; omega]
        exact this
    simp only [lateX] at h
    split at h
    · cases h
    rename_i a ha
    split at h
    · rename_i hb; exact go a ha (Or.inl hb) h
    · split at h
      · rename_i hm; exact go a ha (Or.inr hm) h
      · cases h

noncomputable def passX (C : Cx) (ex : Nat → Code → St → Option (Ex × St)) (sz n0 : Nat) (all : List Oper) (as : Tr Nat) : List Oper → Nat → Tr SV → List Rec → Ph → Nat → List Ph → Option (Tr SV × List Rec × Ph × List Ph × Option (SV × Tr AO × Nat))
  | [], _, t, rs, p, _, ph => some (t, rs, p, ph, none)
  | o :: r, i, t, rs, p, c, ph => match as.get i with
    | none => none
    | some anc => match wantedX all t o with
      | none => none
      | some false => match putX sz t o.dst (.tuple []) with
        | none => none
        | some t' => passX C ex sz n0 all as r (Nat.succ i) t' (⟨i, o, anc, .tuple [], t, .skip⟩ :: rs) p c ph
      | some true => match kindX C o.op with
        | .quiet => match addA n0 anc p.am rs p.h with
          | none => none
          | some h => match quietX C t h o.op with
            | none => none
            | some v => match putX sz t o.dst v with
              | none => none
              | some t' => passX C ex sz n0 all as r (Nat.succ i) t' (⟨i, o, anc, v, t, .quiet c⟩ :: rs) p c ph
        | .alloc => match allocX C t (Nat.add n0 i) o.op with
          | none => none
          | some (v, ao) => match putX sz t o.dst v with
            | none => none
            | some t' => passX C ex sz n0 all as r (Nat.succ i) t' (⟨i, o, anc, v, t, .alloc ao⟩ :: rs) p c ph
        | .write => match Nat.beq (Nat.land p.wm anc) p.wm with
          | false => none
          | true => match addA n0 anc p.am rs p.h with
            | none => none
            | some h => match writerR C ex t h p.n o.op with
              | none => none
              | some (true, v, h', n') => match lateX as i r (Nat.succ i) with
                | true => some (t, rs, p, ph, some (v, h', n'))
                | false => none
              | some (false, v, h', n') => match putX sz t o.dst v with
                | none => none
                | some t' => passX C ex sz n0 all as r (Nat.succ i) t' (⟨i, o, anc, v, t, .write c⟩ :: rs) ⟨h', n', Nat.lor p.wm (Nat.shiftLeft 1 i), Nat.lor p.am anc⟩ (Nat.succ c) (p :: ph)

/-- What each record says. -/
noncomputable def KOk (C : Cx) (ex : Nat → Code → St → Option (Ex × St)) (n0 : Nat) (all : List Oper) (r : Rec) (rs : List Rec) (q : Ph) (qh : List Ph) (p : Ph) (ph : List Ph) : Prop :=
  match r.k with
  | .skip => wantedX all r.t r.o = some false ∧ r.v = .tuple [] ∧ p = q ∧ ph = qh
  | .quiet k => wantedX all r.t r.o = some true ∧ k = qh.length ∧ (∃ h, addA n0 r.anc q.am rs q.h = some h ∧ quietX C r.t h r.o.op = some r.v) ∧ p = q ∧ ph = qh
  | .alloc ao => wantedX all r.t r.o = some true ∧ allocX C r.t (n0 + r.i) r.o.op = some (r.v, ao) ∧ p = q ∧ ph = qh
  | .write k => wantedX all r.t r.o = some true ∧ k = qh.length ∧ Nat.land q.wm r.anc = q.wm ∧ (∃ h, addA n0 r.anc q.am rs q.h = some h ∧ writerR C ex r.t h q.n r.o.op = some (false, r.v, p.h, p.n)) ∧
      p.wm = Nat.lor q.wm (Nat.shiftLeft 1 r.i) ∧ p.am = Nat.lor q.am r.anc ∧ ph = q :: qh

noncomputable def Val (C : Cx) (ex : Nat → Code → St → Option (Ex × St)) (sz n0 : Nat) (all : List Oper) (as : Tr Nat) (t0 : Tr SV) (p0 : Ph) : List Rec → Tr SV → Ph → List Ph → Prop
  | [], t, p, ph => t = t0 ∧ p = p0 ∧ ph = []
  | r :: rs, t, p, ph => r.i = rs.length ∧ all[rs.length]? = some r.o ∧ as.get r.i = some r.anc ∧ putX sz r.t r.o.dst r.v = some t ∧
      ∃ q qh, Val C ex sz n0 all as t0 p0 rs r.t q qh ∧ KOk C ex n0 all r rs q qh p ph

section
variable {P : Program} {C : Cx} {ex : Nat → Code → St → Option (Ex × St)} {sz n0 : Nat} {all : List Oper} {as : Tr Nat} {t0 : Tr SV} {p0 : Ph}

/-- The operation that ends the region by a panic. -/
noncomputable def PanOk (C : Cx) (ex : Nat → Code → St → Option (Ex × St)) (n0 : Nat) (all : List Oper) (as : Tr Nat) (rs : List Rec) (t : Tr SV) (p : Ph) (v : SV) (h' : Tr AO) (n' : Nat) : Prop :=
  ∃ o anc h, all[rs.length]? = some o ∧ as.get rs.length = some anc ∧ wantedX all t o = some true ∧ Nat.land p.wm anc = p.wm ∧ addA n0 anc p.am rs p.h = some h ∧ writerR C ex t h p.n o.op = some (true, v, h', n') ∧
    ∀ j o', rs.length < j → all[j]? = some o' → ∃ a, as.get j = some a ∧ (bitX a rs.length = true ∨ isMoveX o' = true)

theorem passX_val : ∀ {ops : List Oper} {i : Nat} {t t' : Tr SV} {rs rs' : List Rec} {p p' : Ph} {c : Nat} {ph ph' : List Ph} {z : Option (SV × Tr AO × Nat)}, passX C ex sz n0 all as ops i t rs p c ph = some (t', rs', p', ph', z) →
    Val C ex sz n0 all as t0 p0 rs t p ph → rs.length = i → c = ph.length → (∀ j, ops[j]? = all[i + j]?) → Val C ex sz n0 all as t0 p0 rs' t' p' ph' ∧ (z = none → rs'.length = i + ops.length) ∧ ∀ v h' n', z = some (v, h', n') → PanOk C ex n0 all as rs' t' p' v h' n'
  | [], i, t, t', rs, rs', p, p', c, ph, ph', z, h, hv, hi, hc, ho => by
    simp only [passX, Option.some.injEq, Prod.mk.injEq] at h
    obtain ⟨rfl, rfl, rfl, rfl, rfl⟩ := h
    exact ⟨hv, fun _ => by simpa using hi, fun _ _ _ e => nomatch e⟩
  | o :: r, i, t, t', rs, rs', p, p', c, ph, ph', z, h, hv, hi, hc, ho => by
    have ho0 : all[rs.length]? = some o := by rw [hi]; have := ho 0; simpa using this.symm
    have ho1 : ∀ j, r[j]? = all[i + 1 + j]? := fun j => by have := ho (j + 1); rw [show i + 1 + j = i + (j + 1) by omega]; simpa using this
    have fin : ∀ {x : Nat} {A B : Prop}, (A → x = i + 1 + r.length) ∧ B → (A → x = i + (o :: r).length) ∧ B := by intro x A B hx; exact ⟨fun a => by rw [hx.1 a, List.length_cons]; omega, hx.2⟩
    simp only [passX] at h
    split at h
    · cases h
    rename_i anc hanc
    have hanc' : as.get i = some anc := hanc
    split at h
    · cases h
    · rename_i hw
      split at h
      · cases h
      rename_i t1 ht1
      obtain ⟨a, b⟩ := passX_val (i := i + 1) h ⟨hi.symm, ho0, hanc', ht1, p, ph, hv, hw, rfl, rfl, rfl⟩ (by simp [hi]) hc ho1
      exact ⟨a, fin b⟩
    · rename_i hw
      split at h
      · split at h
        · cases h
        rename_i h1 hadd
        split at h
        · cases h
        rename_i v hq
        split at h
        · cases h
        rename_i t1 ht1
        obtain ⟨a, b⟩ := passX_val (i := i + 1) h ⟨hi.symm, ho0, hanc', ht1, p, ph, hv, hw, hc, ⟨h1, hadd, hq⟩, rfl, rfl⟩ (by simp [hi]) hc ho1
        exact ⟨a, fin b⟩
      · split at h
        · cases h
        rename_i v ao hq
        split at h
        · cases h
        rename_i t1 ht1
        obtain ⟨a, b⟩ := passX_val (i := i + 1) h ⟨hi.symm, ho0, hanc', ht1, p, ph, hv, hw, hq, rfl, rfl⟩ (by simp [hi]) hc ho1
        exact ⟨a, fin b⟩
      · split at h
        · cases h
        rename_i hbeq
        split at h
        · cases h
        rename_i h1 hadd
        split at h
        · cases h
        · rename_i v h2 n2 hq
          split at h
          case h_2 => cases h
          rename_i hlate
          cases h
          refine ⟨hv, fun e => (nomatch e), fun v' h' n' e => ?_⟩
          cases e
          subst hi
          refine ⟨o, anc, h1, ho0, hanc', hw, Nat.eq_of_beq_eq_true hbeq, hadd, hq, fun j o' hj hjo => ?_⟩
          have hjr : r[j - (rs.length + 1)]? = some o' := by rw [ho1]; rw [show rs.length + 1 + (j - (rs.length + 1)) = j by omega]; exact hjo
          have := lateX_ok hlate (j - (rs.length + 1)) o' hjr
          rw [show Nat.succ rs.length + (j - (rs.length + 1)) = j by simp only [Nat.succ_eq_add_one]; omega] at this
          exact this
        rename_i v h2 n2 hq
        split at h
        · cases h
        rename_i t1 ht1
        obtain ⟨a, b⟩ := passX_val (i := i + 1) h ⟨hi.symm, ho0, hanc', ht1, p, ph, hv, hw, hc, Nat.eq_of_beq_eq_true hbeq, ⟨h1, hadd, hq⟩, rfl, rfl, rfl⟩ (by simp [hi]) (by simp [hc]) ho1
        exact ⟨a, fin b⟩

theorem val_mem : ∀ {L : List Rec} {t : Tr SV} {p : Ph} {ph : List Ph}, Val C ex sz n0 all as t0 p0 L t p ph → ∀ r ∈ L, r.i < L.length ∧ all[r.i]? = some r.o ∧ as.get r.i = some r.anc
  | [], _, _, _, _, r, hr => nomatch hr
  | x :: L, t, p, ph, ⟨h1, h2, h3, h4, q, qh, h5, h6⟩, r, hr => by
    rcases List.mem_cons.1 hr with rfl | hr
    · exact ⟨by rw [h1]; simp, by rw [h1]; exact h2, h3⟩
    · obtain ⟨a, b, c⟩ := val_mem h5 r hr
      exact ⟨by simp; omega, b, c⟩

theorem val_ex : ∀ {L : List Rec} {t : Tr SV} {p : Ph} {ph : List Ph}, Val C ex sz n0 all as t0 p0 L t p ph → ∀ i, i < L.length → ∃ r ∈ L, r.i = i
  | [], _, _, _, _, i, hi => by simp at hi
  | x :: L, t, p, ph, ⟨h1, h2, h3, h4, q, qh, h5, h6⟩, i, hi => by
    by_cases e : i = L.length
    · exact ⟨x, List.mem_cons_self, by omega⟩
    · obtain ⟨r, a, b⟩ := val_ex h5 i (by simp at hi; omega)
      exact ⟨r, List.mem_cons_of_mem _ a, b⟩

theorem val_inj : ∀ {L : List Rec} {t : Tr SV} {p : Ph} {ph : List Ph}, Val C ex sz n0 all as t0 p0 L t p ph → ∀ r ∈ L, ∀ r' ∈ L, r.i = r'.i → r = r'
  | [], _, _, _, _, r, hr, _, _, _ => nomatch hr
  | x :: L, t, p, ph, ⟨h1, h2, h3, h4, q, qh, h5, h6⟩, r, hr, r', hr', e => by
    rcases List.mem_cons.1 hr with e1 | g1 <;> rcases List.mem_cons.1 hr' with e2 | g2
    · rw [e1, e2]
    · have := (val_mem h5 r' g2).1; rw [e1] at e; omega
    · have := (val_mem h5 r g1).1; rw [e2] at e; omega
    · exact val_inj h5 r g1 r' g2 e

theorem putX_get {t t' : Tr SV} {d : Option Tmp} {v : SV} (h : putX sz t d v = some t') : (d = none ∧ t' = t) ∨ ∃ k, d = some k ∧ k < sz ∧ ∀ j, t'.get j = if j = k then some v else t.get j := by
  unfold putX at h
  split at h
  · cases h; exact Or.inl ⟨rfl, rfl⟩
  · rename_i k
    split at h
    · rename_i hb
      exact Or.inr ⟨k, rfl, by simpa [Nat.blt_eq] using hb, Tr.get_upd _ _ _ _ _ h⟩
    · cases h

/-- Values of temporaries: of the region's own, by the operation that sets it. -/
theorem val_tmp (hdis : ∀ (i j : Nat) (o o' : Oper) (d : Nat), all[i]? = some o → all[j]? = some o' → o.dst = some d → o'.dst = some d → i = j) (hclr : ∀ (i : Nat) (o : Oper) (d : Nat), all[i]? = some o → o.dst = some d → t0.get d = none) :
    ∀ {L : List Rec} {t : Tr SV} {p : Ph} {ph : List Ph}, Val C ex sz n0 all as t0 p0 L t p ph →
      (∀ u v, t.get u = some v → (∃ r ∈ L, r.o.dst = some u ∧ v = r.v) ∨ ((∀ r ∈ L, r.o.dst ≠ some u) ∧ t0.get u = some v)) ∧
      (∀ r ∈ L, ∀ u v, r.t.get u = some v → t.get u = some v) ∧ (∀ r ∈ L, ∀ d, r.o.dst = some d → d < sz ∧ t.get d = some r.v)
  | [], t, p, ph, ⟨h1, _, _⟩ => by subst h1; exact ⟨fun u v h => Or.inr ⟨fun r hr => (nomatch hr), h⟩, fun r hr => (nomatch hr), fun r hr => (nomatch hr)⟩
  | x :: L, t, p, ph, ⟨h1, h2, h3, h4, q, qh, h5, h6⟩ => by
    obtain ⟨a, b, c⟩ := val_tmp hdis hclr h5
    rcases putX_get h4 with ⟨hd, ht⟩ | ⟨k, hd, hk, ht⟩
    · subst ht
      refine ⟨fun u v h => ?_, fun r hr => ?_, fun r hr d hdst => ?_⟩
      · rcases a u v h with ⟨r, hr, e⟩ | ⟨e1, e2⟩
        · exact Or.inl ⟨r, List.mem_cons_of_mem _ hr, e⟩
        · refine Or.inr ⟨fun r hr => ?_, e2⟩
          rcases List.mem_cons.1 hr with rfl | hr
          · rw [hd]; exact fun e => nomatch e
          · exact e1 r hr
      · rcases List.mem_cons.1 hr with rfl | hr
        · exact fun u v h => h
        · exact b r hr
      · rcases List.mem_cons.1 hr with rfl | hr
        · rw [hd] at hdst; cases hdst
        · exact c r hr d hdst
    · have hfresh : x.t.get k = none := by
        cases hx : x.t.get k with
        | none => rfl
        | some v =>
          rcases a k v hx with ⟨r, hr, e1, e2⟩ | ⟨_, e2⟩
          · obtain ⟨g1, g2, _⟩ := val_mem h5 r hr
            have := hdis _ _ _ _ k g2 h2 e1 hd
            omega
          · rw [hclr _ _ k h2 hd] at e2; cases e2
      refine ⟨fun u v h => ?_, fun r hr u v h => ?_, fun r hr d hdst => ?_⟩
      · rw [ht] at h
        by_cases e : u = k
        · rw [if_pos e] at h; cases h; subst e
          exact Or.inl ⟨x, List.mem_cons_self, hd, rfl⟩
        · rw [if_neg e] at h
          rcases a u v h with ⟨r, hr, e'⟩ | ⟨e1, e2⟩
          · exact Or.inl ⟨r, List.mem_cons_of_mem _ hr, e'⟩
          · refine Or.inr ⟨fun r hr => ?_, e2⟩
            rcases List.mem_cons.1 hr with rfl | hr
            · rw [hd]; intro e'; cases e'; exact e rfl
            · exact e1 r hr
      · rw [ht]
        have hxt : x.t.get u = some v := by
          rcases List.mem_cons.1 hr with rfl | hr
          · exact h
          · exact b r hr u v h
        by_cases e : u = k
        · subst e; rw [hfresh] at hxt; cases hxt
        · rw [if_neg e]; exact hxt
      · rcases List.mem_cons.1 hr with rfl | hr
        · rw [hd] at hdst; cases hdst
          exact ⟨hk, by rw [ht, if_pos rfl]⟩
        · obtain ⟨g1, g2⟩ := c r hr d hdst
          refine ⟨g1, ?_⟩
          rw [ht]
          by_cases e : d = k
          · subst e; rw [hfresh] at g2; cases g2
          · rw [if_neg e]; exact g2

/-- What the region doesn't set stays. -/
theorem val_t0 : ∀ {L : List Rec} {t : Tr SV} {p : Ph} {ph : List Ph}, Val C ex sz n0 all as t0 p0 L t p ph → ∀ u v, t0.get u = some v → (∀ r ∈ L, r.o.dst ≠ some u) → t.get u = some v
  | [], t, p, ph, ⟨h1, _, _⟩, u, v, hu, _ => by subst h1; exact hu
  | x :: L, t, p, ph, ⟨h1, h2, h3, h4, q, qh, h5, h6⟩, u, v, hu, hn => by
    have ih := val_t0 h5 u v hu (fun r hr => hn r (List.mem_cons_of_mem _ hr))
    rcases putX_get h4 with ⟨hd, ht⟩ | ⟨k, hd, hk, ht⟩
    · subst ht; exact ih
    · rw [ht, if_neg (by intro e; subst e; exact hn x List.mem_cons_self hd)]; exact ih

/-- Each record with the state of memory before it. -/
theorem val_k : ∀ {L : List Rec} {t : Tr SV} {p : Ph} {ph : List Ph}, Val C ex sz n0 all as t0 p0 L t p ph → ∀ r ∈ L, ∃ rs q qh p' ph', KOk C ex n0 all r rs q qh p' ph' ∧ (∀ x ∈ rs, x ∈ L) ∧ (q :: qh) <:+ (p :: ph) ∧ (p' :: ph') <:+ (p :: ph)
  | [], _, _, _, _, r, hr => nomatch hr
  | x :: L, t, p, ph, ⟨h1, h2, h3, h4, q, qh, h5, h6⟩, r, hr => by
    have hsuf : (q :: qh) <:+ (p :: ph) := by
      unfold KOk at h6
      split at h6
      · obtain ⟨_, _, rfl, rfl⟩ := h6; exact List.suffix_refl _
      · obtain ⟨_, _, _, rfl, rfl⟩ := h6; exact List.suffix_refl _
      · obtain ⟨_, _, rfl, rfl⟩ := h6; exact List.suffix_refl _
      · obtain ⟨_, _, _, _, _, _, rfl⟩ := h6; exact List.suffix_cons _ _
    rcases List.mem_cons.1 hr with rfl | hr
    · exact ⟨L, q, qh, p, ph, h6, fun y hy => List.mem_cons_of_mem _ hy, hsuf, List.suffix_refl _⟩
    · obtain ⟨rs, q', qh', p', ph', a, b, c, d⟩ := val_k h5 r hr
      exact ⟨rs, q', qh', p', ph', a, fun y hy => List.mem_cons_of_mem _ (b y hy), c.trans hsuf, d.trans hsuf⟩

/-- Which operations have changed memory before a state. -/
theorem val_wm (hp0 : p0.wm = 0) : ∀ {L : List Rec} {t : Tr SV} {p : Ph} {ph : List Ph}, Val C ex sz n0 all as t0 p0 L t p ph →
    (∀ x xs, (x :: xs) <:+ (p :: ph) → ∀ l, bitX x.wm l = true ↔ ∃ r ∈ L, r.i = l ∧ ∃ k, r.k = .write k ∧ k < xs.length) ∧ (∀ c, c < ph.length → ∃ r ∈ L, r.k = .write c) ∧ (∀ r ∈ L, ∀ k, r.k = .write k → k < ph.length)
  | [], t, p, ph, ⟨h1, h2, h3⟩ => by
    subst h2; subst h3
    refine ⟨fun x xs hs l => ?_, fun c hc => by simp at hc, fun r hr => (nomatch hr)⟩
    have : x = p ∧ xs = [] := by
      rcases List.suffix_cons_iff.1 hs with h | h
      · simpa using h
      · simp at h
    obtain ⟨rfl, rfl⟩ := this
    rw [hp0, bitX_zero]
    exact ⟨fun h => (nomatch h), fun ⟨r, hr, _⟩ => nomatch hr⟩
  | y :: L, t, p, ph, ⟨h1, h2, h3, h4, q, qh, h5, h6⟩ => by
    obtain ⟨a, b, c⟩ := val_wm hp0 h5
    have keep : (∀ k, y.k ≠ .write k) → p = q → ph = qh → (∀ x xs, (x :: xs) <:+ (p :: ph) → ∀ l, bitX x.wm l = true ↔ ∃ r ∈ y :: L, r.i = l ∧ ∃ k, r.k = .write k ∧ k < xs.length) ∧ (∀ c, c < ph.length → ∃ r ∈ y :: L, r.k = .write c) ∧ (∀ r ∈ y :: L, ∀ k, r.k = .write k → k < ph.length) := by
      rintro hn rfl rfl
      refine ⟨fun x xs hs l => (a x xs hs l).trans ⟨fun ⟨r, hr, k⟩ => ⟨r, List.mem_cons_of_mem _ hr, k⟩, fun ⟨r, hr, e, k, e1, e2⟩ => ?_⟩, fun cc hcc => ?_, fun r hr k hk => ?_⟩
      · rcases List.mem_cons.1 hr with rfl | hr
        · exact absurd e1 (hn k)
        · exact ⟨r, hr, e, k, e1, e2⟩
      · obtain ⟨r, hr, e⟩ := b cc hcc
        exact ⟨r, List.mem_cons_of_mem _ hr, e⟩
      · rcases List.mem_cons.1 hr with rfl | hr
        · exact absurd hk (hn k)
        · exact c r hr k hk
    unfold KOk at h6
    split at h6
    · rename_i hk
      obtain ⟨_, _, e1, e2⟩ := h6
      exact keep (fun k => by rw [hk]; exact fun e => nomatch e) e1 e2
    · rename_i k hk
      obtain ⟨_, _, _, e1, e2⟩ := h6
      exact keep (fun k => by rw [hk]; exact fun e => nomatch e) e1 e2
    · rename_i ao hk
      obtain ⟨_, _, e1, e2⟩ := h6
      exact keep (fun k => by rw [hk]; exact fun e => nomatch e) e1 e2
    · rename_i k hk
      obtain ⟨_, hkl, _, _, hwm, _, rfl⟩ := h6
      refine ⟨fun x xs hs l => ?_, fun cc hcc => ?_, fun r hr k' hk' => ?_⟩
      · rcases List.suffix_cons_iff.1 hs with h | h
        · simp only [List.cons.injEq] at h
          obtain ⟨rfl, rfl⟩ := h
          rw [hwm, bitX_lor, bitX_one, Bool.or_eq_true, decide_eq_true_eq, a q qh (List.suffix_refl _) l]
          constructor
          · rintro (⟨r, hr, e, k', e1, e2⟩ | e)
            · exact ⟨r, List.mem_cons_of_mem _ hr, e, k', e1, by simp; omega⟩
            · exact ⟨y, List.mem_cons_self, e, k, hk, by simp; omega⟩
          · rintro ⟨r, hr, e, k', e1, e2⟩
            rcases List.mem_cons.1 hr with rfl | hr
            · exact Or.inr e
            · exact Or.inl ⟨r, hr, e, k', e1, c r hr k' e1⟩
        · have hlen : xs.length + 1 ≤ qh.length + 1 := by have := h.length_le; simpa using this
          refine (a x xs h l).trans ⟨fun ⟨r, hr, k'⟩ => ⟨r, List.mem_cons_of_mem _ hr, k'⟩, fun ⟨r, hr, e, k', e1, e2⟩ => ?_⟩
          rcases List.mem_cons.1 hr with rfl | hr
          · rw [hk] at e1; cases e1; omega
          · exact ⟨r, hr, e, k', e1, e2⟩
      · by_cases e : cc < qh.length
        · obtain ⟨r, hr, e⟩ := b cc e
          exact ⟨r, List.mem_cons_of_mem _ hr, e⟩
        · exact ⟨y, List.mem_cons_self, by rw [hk, hkl]; congr 1; simp at hcc; omega⟩
      · rcases List.mem_cons.1 hr with rfl | hr
        · rw [hk] at hk'; cases hk'; simp; omega
        · have := c r hr k' hk'; simp; omega
end
end Go.Xq
