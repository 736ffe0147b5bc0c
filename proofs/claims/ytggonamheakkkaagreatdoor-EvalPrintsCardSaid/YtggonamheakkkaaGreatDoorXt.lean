/-
  A run of closed code by the kernel: two ways, and what they have in common.
-/
import Derived.Test.YtggonamheakkkaaGreatDoorXo
namespace Go.Xq
open Go.RowKit
set_option linter.unusedVariables false

mutual
/-- All blocks that it speaks of have lower numbers. -/
noncomputable def SV.under (n : Nat) : SV → Bool
  | .func _ a b => match underL n a with | true => underL n b | false => false
  | .iface _ v => v.under n
  | .agg cs => underL n cs
  | .tuple cs => underL n cs
  | .ptr i _ => Nat.blt i n
  | .slice i _ _ _ => Nat.blt i n
  | .map i => Nat.blt i n
  | .yld i => Nat.blt i n
  | _ => true
noncomputable def underL (n : Nat) : List SV → Bool
  | [] => true
  | v :: r => match v.under n with | true => underL n r | false => false
end

/-! ### Blocks that stand for others -/
noncomputable def asc : List (Nat × Nat) → Nat → Option Nat
  | [], _ => none
  | (i, j) :: r, k => match Nat.beq i k with
    | true => some j
    | false => asc r k

theorem asc_mem : ∀ {L : List (Nat × Nat)} {i j : Nat}, asc L i = some j → (i, j) ∈ L
  | [], _, _, h => nomatch h
  | (a, b) :: r, i, j, h => by
    simp only [asc] at h
    split at h
    · rename_i e
      cases h
      rw [← Nat.eq_of_beq_eq_true e]
      exact List.mem_cons_self
    · exact List.mem_cons_of_mem _ (asc_mem h)

/-- Blocks below n0 are the same, new ones as listed. -/
noncomputable def relI (n0 : Nat) (L : List (Nat × Nat)) (i j : Nat) : Bool := match Nat.blt i n0 with
  | true => Nat.beq i j
  | false => match asc L i with
    | some k => Nat.beq k j
    | none => false

mutual
noncomputable def renV (n0 : Nat) (L : List (Nat × Nat)) : SV → SV → Bool
  | .ptr i o, .ptr j o' => match relI n0 L i j with | true => Nat.beq o o' | false => false
  | .slice i o n c, .slice j o' n' c' => match relI n0 L i j with
    | true => beqSV (.slice 0 o n c) (.slice 0 o' n' c')
    | false => false
  | .map i, .map j => relI n0 L i j
  | .iface t v, .iface t' v' => match Nat.beq t t' with | true => renV n0 L v v' | false => false
  | .agg a, .agg b => renL n0 L a b
  | .tuple a, .tuple b => renL n0 L a b
  | u, v => match beqSV u v with | true => u.under 0 | false => false
noncomputable def renL (n0 : Nat) (L : List (Nat × Nat)) : List SV → List SV → Bool
  | [], [] => true
  | u :: us, v :: vs => match renV n0 L u v with | true => renL n0 L us vs | false => false
  | _, _ => false
end

/-- The blocks by their new names. -/
noncomputable def Env.rn (E : Env) (n0 : Nat) (L : List (Nat × Nat)) : Env := ⟨E.ints, fun id => if id < n0 then E.blk id else match asc L id with | some j => E.blk j | none => none, E.opq⟩

theorem Env.rn_lt {E : Env} {n0 : Nat} {L : List (Nat × Nat)} {id : Nat} (h : id < n0) : (E.rn n0 L).blk id = E.blk id := if_pos h
theorem Env.rn_ge {E : Env} {n0 : Nat} {L : List (Nat × Nat)} {id : Nat} (h : n0 ≤ id) : (E.rn n0 L).blk id = match asc L id with | some j => E.blk j | none => none := if_neg (by omega)

theorem relI_ok {E : Env} {n0 : Nat} {L : List (Nat × Nat)} {i j : Nat} (h : relI n0 L i j = true) : (E.rn n0 L).blk i = E.blk j := by
  unfold relI at h
  split at h
  · rename_i hb
    rw [Env.rn_lt (by simpa [Nat.blt_eq] using hb), Nat.eq_of_beq_eq_true h]
  · rename_i hb
    split at h
    · rename_i k hk
      rw [Env.rn_ge (Nat.le_of_not_lt (fun hlt => by rw [← Nat.blt_eq, hb] at hlt; cases hlt)), hk, Nat.eq_of_beq_eq_true h]
    · cases h

mutual
theorem SV.den_none {E E' : Env} (hi : E'.ints = E.ints) (ho : E'.opq = E.opq) : ∀ v : SV, v.under 0 = true → v.den E' = v.den E
  | .int k e, _ => by simp only [SV.den, hi]
  | .func fn a b, h => by
    simp only [SV.under] at h
    split at h
    · rename_i h1; simp only [SV.den, denL_none hi ho a h1, denL_none hi ho b h]
    · cases h
  | .iface t v, h => by
    simp only [SV.under] at h
    simp only [SV.den, SV.den_none hi ho v h]
  | .agg cs, h => by
    simp only [SV.under] at h
    simp only [SV.den, denL_none hi ho cs h]
  | .tuple cs, h => by
    simp only [SV.under] at h
    simp only [SV.den, denL_none hi ho cs h]
  | .ptr i o, h => by simp [SV.under, Nat.blt_eq] at h
  | .slice i o m c, h => by simp [SV.under, Nat.blt_eq] at h
  | .map i, h => by simp [SV.under, Nat.blt_eq] at h
  | .yld i, h => by simp [SV.under, Nat.blt_eq] at h
  | .bool b, _ => rfl
  | .str s, _ => rfl
  | .nilptr, _ => rfl
  | .nilslice, _ => rfl
  | .nilmap, _ => rfl
  | .nilfunc, _ => rfl
  | .nilIface, _ => rfl
  | .opq i, _ => by simp only [SV.den, ho]
  | .ostr i, _ => by simp only [SV.den, ho]
  | .oslice i, _ => by simp only [SV.den, ho]
  | .optr i k, _ => by simp only [SV.den, ho]
theorem denL_none {E E' : Env} (hi : E'.ints = E.ints) (ho : E'.opq = E.opq) : ∀ l : List SV, underL 0 l = true → denL E' l = denL E l
  | [], _ => rfl
  | v :: r, h => by
    simp only [underL] at h
    split at h
    · rename_i h1; simp only [denL, SV.den_none hi ho v h1, denL_none hi ho r h]
    · cases h
end

theorem renV_same {E : Env} {n0 : Nat} {L : List (Nat × Nat)} {u v : SV} (h : (match beqSV u v with | true => u.under 0 | false => false) = true) : u.den (E.rn n0 L) = v.den E := by
  split at h
  · rename_i hb
    rw [← beqSV_eq _ _ hb]
    exact SV.den_none (E := E) (E' := E.rn n0 L) rfl rfl u h
  · cases h

mutual
theorem renV_ok {E : Env} {n0 : Nat} {L : List (Nat × Nat)} : ∀ u v : SV, renV n0 L u v = true → u.den (E.rn n0 L) = v.den E
  | .ptr i o, v, h => by
    cases v <;> simp only [renV] at h <;> try exact renV_same h
    split at h
    · rename_i hr
      simp only [SV.den, relI_ok hr, Nat.eq_of_beq_eq_true h]
    · cases h
  | .slice i o n c, v, h => by
    cases v <;> simp only [renV] at h <;> try exact renV_same h
    split at h
    · rename_i hr
      have e := beqSV_eq _ _ h
      cases e
      simp only [SV.den, relI_ok hr]
    · cases h
  | .map i, v, h => by
    cases v <;> simp only [renV] at h <;> try exact renV_same h
    simp only [SV.den, relI_ok h]
  | .iface t x, v, h => by
    cases v <;> simp only [renV] at h <;> try exact renV_same h
    split at h
    · rename_i ht
      simp only [SV.den, Nat.eq_of_beq_eq_true ht, renV_ok x _ h]
    · cases h
  | .agg a, v, h => by
    cases v <;> simp only [renV] at h <;> try exact renV_same h
    simp only [SV.den, renL_ok a _ h]
  | .tuple a, v, h => by
    cases v <;> simp only [renV] at h <;> try exact renV_same h
    simp only [SV.den, renL_ok a _ h]
  | .int k e, v, h => renV_same (by cases v <;> simpa only [renV] using h)
  | .func f a b, v, h => renV_same (by cases v <;> simpa only [renV] using h)
  | .bool b, v, h => renV_same (by cases v <;> simpa only [renV] using h)
  | .str s, v, h => renV_same (by cases v <;> simpa only [renV] using h)
  | .nilptr, v, h => renV_same (by cases v <;> simpa only [renV] using h)
  | .nilslice, v, h => renV_same (by cases v <;> simpa only [renV] using h)
  | .nilmap, v, h => renV_same (by cases v <;> simpa only [renV] using h)
  | .nilfunc, v, h => renV_same (by cases v <;> simpa only [renV] using h)
  | .nilIface, v, h => renV_same (by cases v <;> simpa only [renV] using h)
  | .opq i, v, h => renV_same (by cases v <;> simpa only [renV] using h)
  | .ostr i, v, h => renV_same (by cases v <;> simpa only [renV] using h)
  | .oslice i, v, h => renV_same (by cases v <;> simpa only [renV] using h)
  | .optr i k, v, h => renV_same (by cases v <;> simpa only [renV] using h)
  | .yld i, v, h => renV_same (by cases v <;> simpa only [renV] using h)
theorem renL_ok {E : Env} {n0 : Nat} {L : List (Nat × Nat)} : ∀ us vs : List SV, renL n0 L us vs = true → denL (E.rn n0 L) us = denL E vs
  | [], [], _ => rfl
  | u :: us, v :: vs, h => by
    simp only [renL] at h
    split at h
    · rename_i h1
      simp only [denL, renV_ok u v h1, renL_ok us vs h]
    · cases h
  | [], _ :: _, h => by simp [renL] at h
  | _ :: _, [], h => by simp [renL] at h
end

noncomputable def renEs (n0 : Nat) (L : List (Nat × Nat)) : List (SV × SV) → List (SV × SV) → Bool
  | [], [] => true
  | (a, b) :: r, (c, d) :: q => match renV n0 L a c with
    | true => (match renV n0 L b d with | true => renEs n0 L r q | false => false)
    | false => false
  | _, _ => false

noncomputable def renAO (n0 : Nat) (L : List (Nat × Nat)) : AO → AO → Bool
  | .cells a e s m, .cells b f t k => match renL n0 L a b with
    | true => (match Nat.beq e f with
      | true => (match beqO s t with
        | true => (match m with | true => k | false => notB k)
        | false => false)
      | false => false)
    | false => false
  | .map a, .map b => renEs n0 L a b
  | .ro a, .ro b => renL n0 L a b
  | _, _ => false

theorem renEs_ok {E : Env} {n0 : Nat} {L : List (Nat × Nat)} : ∀ {l q : List (SV × SV)} {es : List MapEntry}, renEs n0 L l q = true → denE E q es → denE (E.rn n0 L) l es
  | [], [], es, _, h => h
  | (a, b) :: r, (c, d) :: q, es, hb, ⟨e, es', h1, h2, h3, h4⟩ => by
    simp only [renEs] at hb
    split at hb
    · rename_i ha
      split at hb
      · rename_i hb'
        exact ⟨e, es', h1, by rw [renV_ok a c ha]; exact h2, by rw [renV_ok b d hb']; exact h3, renEs_ok hb h4⟩
      · cases hb
    · cases hb
  | [], _ :: _, _, h, _ => by simp [renEs] at h
  | _ :: _, [], _, h, _ => by simp [renEs] at h

theorem renAO_ok {E : Env} {n0 : Nat} {L : List (Nat × Nat)} {p : Nat × Nat} {hp : Array Obj} {o u : AO} (h : renAO n0 L o u = true) (k : u.rel E p hp) : o.rel (E.rn n0 L) p hp := by
  cases o <;> cases u <;> simp only [renAO] at h <;> try (cases h; done)
  · split at h
    · rename_i h1
      split at h
      · rename_i h2
        split at h
        · rename_i h3
          obtain ⟨vs, rest, fz, a, b, c⟩ := k
          rw [Nat.eq_of_beq_eq_true h2, beqO_eq h3, beqB2 h]
          exact ⟨vs, rest, fz, by rw [renL_ok _ _ h1]; exact a, b, c⟩
        · cases h
      · cases h
    · cases h
  · obtain ⟨ents, clock, a, b⟩ := k
    exact ⟨ents, clock, a, renEs_ok h b⟩
  · obtain ⟨xs, c, e, fz, a, b⟩ := k
    exact ⟨xs, c, e, fz, by rw [renL_ok _ _ h]; exact a, b⟩

/-! ### What two tables have in common -/
noncomputable def Tr.meet {α β : Type} (p : α → β → Bool) : Tr α → Tr β → Tr α
  | .nil, _ => .nil
  | .node _ _ _, .nil => .nil
  | .node l v r, .node l' v' r' => .node (Tr.meet p l l') (match v, v' with
    | some a, some b => (match p a b with | true => some a | false => none)
    | _, _ => none) (Tr.meet p r r')

theorem Tr.get_meet {α β : Type} {p : α → β → Bool} : ∀ {t : Tr α} {u : Tr β} {k : Nat} {a : α}, (Tr.meet p t u).get k = some a → t.get k = some a ∧ ∃ b, u.get k = some b ∧ p a b = true
  | .nil, _, k, a, h => by simp only [Tr.meet] at h; rw [Tr.get_nil] at h; cases h
  | .node l v r, .nil, k, a, h => by simp only [Tr.meet] at h; rw [Tr.get_nil] at h; cases h
  | .node l v r, .node l' v' r', k, a, h => by
    simp only [Tr.meet] at h
    rw [Tr.get_node] at h ⊢
    rw [Tr.get_node]
    by_cases h0 : k = 0
    · rw [if_pos h0] at h ⊢
      rw [if_pos h0]
      split at h
      · split at h
        · rename_i hp
          cases h
          exact ⟨rfl, _, rfl, hp⟩
        · cases h
      · cases h
    · rw [if_neg h0] at h ⊢
      rw [if_neg h0]
      by_cases h1 : k % 2 = 0
      · rw [if_pos h1] at h ⊢
        rw [if_pos h1]
        exact Tr.get_meet h
      · rw [if_neg h1] at h ⊢
        rw [if_neg h1]
        exact Tr.get_meet h

/-- New blocks that are there both ways. -/
noncomputable def addN2 (n0 n : Nat) (L : List (Nat × Nat)) (h1 h2 : Tr AO) : List (Nat × Nat) → Tr AO → Option (Tr AO)
  | [], h => some h
  | (i, j) :: r, h => match Nat.ble n0 i with
    | false => none
    | true => match Nat.blt i n with
      | false => none
      | true => match Nat.ble n0 j with
        | false => none
        | true => match h1.get i with
          | none => none
          | some o => match h2.get j with
            | none => none
            | some u => match renAO n0 L o u with
              | false => none
              | true => match Tr.upd 48 h i (some o) with
                | none => none
                | some h' => addN2 n0 n L h1 h2 r h'

theorem addN2_ok {n0 n : Nat} {L : List (Nat × Nat)} {h1 h2 : Tr AO} : ∀ {M : List (Nat × Nat)} {h h' : Tr AO}, addN2 n0 n L h1 h2 M h = some h' →
    (∀ i j, (i, j) ∈ M → n0 ≤ i ∧ i < n ∧ n0 ≤ j) ∧ ∀ k a, h'.get k = some a → (∃ j, (k, j) ∈ M ∧ h1.get k = some a ∧ ∃ u, h2.get j = some u ∧ renAO n0 L a u = true) ∨ h.get k = some a
  | [], h, h', hx => by simp only [addN2, Option.some.injEq] at hx; subst hx; exact ⟨fun _ _ h => (nomatch h), fun _ _ h => Or.inr h⟩
  | (i, j) :: r, h, h', hx => by
    simp only [addN2] at hx
    split at hx
    · cases hx
    rename_i b1
    split at hx
    · cases hx
    rename_i b2
    split at hx
    · cases hx
    rename_i b3
    split at hx
    · cases hx
    rename_i o ho
    split at hx
    · cases hx
    rename_i u hu
    split at hx
    · cases hx
    rename_i hr
    split at hx
    · cases hx
    rename_i hm hup
    obtain ⟨c1, c2⟩ := addN2_ok hx
    refine ⟨fun a b hm => ?_, fun k a hk => ?_⟩
    · rcases List.mem_cons.1 hm with e | hm
      · cases e
        exact ⟨Nat.le_of_ble_eq_true b1, by simpa [Nat.blt_eq] using b2, Nat.le_of_ble_eq_true b3⟩
      · exact c1 a b hm
    · rcases c2 k a hk with ⟨j', d1, d2⟩ | d
      · exact Or.inl ⟨j', List.mem_cons_of_mem _ d1, d2⟩
      · rw [Tr.get_upd _ _ _ _ _ hup] at d
        by_cases e : k = i
        · rw [if_pos e] at d
          cases d
          subst e
          exact Or.inl ⟨j, List.mem_cons_self, ho, u, hu, hr⟩
        · rw [if_neg e] at d
          exact Or.inr d

/-- Nothing is named twice. -/
noncomputable def nodup2 : List (Nat × Nat) → Bool
  | [] => true
  | (i, j) :: r => match r.any (fun p => match Nat.beq p.1 i with | true => true | false => Nat.beq p.2 j) with
    | true => false
    | false => nodup2 r

theorem nodup2_ok : ∀ {L : List (Nat × Nat)}, nodup2 L = true → (∀ i i' j, (i, j) ∈ L → (i', j) ∈ L → i = i') ∧ ∀ i j, (i, j) ∈ L → asc L i = some j
  | [], _ => ⟨fun _ _ _ h => (nomatch h), fun _ _ h => (nomatch h)⟩
  | (a, b) :: r, h => by
    simp only [nodup2] at h
    split at h
    · cases h
    rename_i ha
    obtain ⟨c1, c2⟩ := nodup2_ok h
    have hno : ∀ i j, (i, j) ∈ r → i ≠ a ∧ j ≠ b := by
      intro i j hm
      have := List.any_eq_false.1 ha (i, j) hm
      simp only at this
      split at this
      · exact absurd rfl this
      · rename_i h1
        refine ⟨Nat.ne_of_beq_eq_false h1, fun e => this ?_⟩
        rw [e]; exact Nat.beq_refl b
    refine ⟨fun i i' j h1 h2 => ?_, fun i j h1 => ?_⟩
    · rcases List.mem_cons.1 h1 with e | h1
      · cases e
        rcases List.mem_cons.1 h2 with e | h2
        · cases e; rfl
        · exact absurd rfl (hno _ _ h2).2
      · rcases List.mem_cons.1 h2 with e | h2
        · cases e; exact absurd rfl (hno _ _ h1).2
        · exact c1 _ _ _ h1 h2
    · simp only [asc]
      rcases List.mem_cons.1 h1 with e | h1
      · cases e
        rw [show Nat.beq a a = true from Nat.beq_refl a]
      · rw [show Nat.beq a i = false from by
          cases hb : Nat.beq a i with
          | false => rfl
          | true => exact absurd (Nat.eq_of_beq_eq_true hb).symm (hno _ _ h1).1]
        exact c2 i j h1

/-- What two ways from a state leave in common: new blocks as listed. -/
noncomputable def meetSt (L : List (Nat × Nat)) (s s1 s2 : St) : Option St := match nodup2 L with
  | false => none
  | true => match addN2 s.n s1.n L s1.h s2.h L (Tr.meet (fun _ _ => true) (Tr.meet (renAO s.n L) s1.h s2.h) s.h) with
    | none => none
    | some h => some ⟨Tr.meet (renV s.n L) s1.t s2.t, h, s1.n⟩

section
variable {C : Cx} {d : List Deferred} {L : List (Nat × Nat)} {s s1 s2 m : St} {E : Env} {sz : Nat} {w : World}

theorem meetSt_ok (hm : meetSt L s s1 s2 = some m) : m.n = s1.n ∧ (∀ i i' j, (i, j) ∈ L → (i', j) ∈ L → i = i') ∧ (∀ i j, (i, j) ∈ L → asc L i = some j) ∧ (∀ i j, (i, j) ∈ L → s.n ≤ i ∧ i < s1.n ∧ s.n ≤ j) ∧
    (∀ k v, m.t.get k = some v → s1.t.get k = some v ∧ ∃ u, s2.t.get k = some u ∧ renV s.n L v u = true) ∧
    ∀ k a, m.h.get k = some a → s1.h.get k = some a ∧ ((∃ j u, (k, j) ∈ L ∧ s2.h.get j = some u ∧ renAO s.n L a u = true) ∨ ∃ u x, s2.h.get k = some u ∧ renAO s.n L a u = true ∧ s.h.get k = some x) := by
  unfold meetSt at hm
  split at hm
  · cases hm
  rename_i hnd
  split at hm
  · cases hm
  rename_i h hh
  cases hm
  obtain ⟨a1, a2⟩ := nodup2_ok hnd
  obtain ⟨b1, b2⟩ := addN2_ok hh
  refine ⟨rfl, a1, a2, b1, fun k v hk => Tr.get_meet hk, fun k a hk => ?_⟩
  rcases b2 k a hk with ⟨j, c1, c2, u, c3, c4⟩ | c
  · exact ⟨c2, Or.inl ⟨j, u, c1, c3, c4⟩⟩
  · obtain ⟨d1, x, d2, _⟩ := Tr.get_meet c
    obtain ⟨e1, u, e2, e3⟩ := Tr.get_meet d1
    exact ⟨e1, Or.inr ⟨u, x, e2, e3, d2⟩⟩

/-- The first way. -/
theorem meet_first (hm : meetSt L s s1 s2 = some m) {e : Exit} {a' : Act} {w' : World} (h : PQ C d E sz s w (.normal, s1) e a' w') : PQ C d E sz s w (.normal, m) e a' w' := by
  obtain ⟨m1, _, _, _, m5, m6⟩ := meetSt_ok hm
  obtain ⟨E', ms, h1, h2, h3, h4⟩ := h
  have dom : ∀ id o, m.h.get id = some o → ∃ u, s1.h.get id = some u := fun id o hid => ⟨o, (m6 id o hid).1⟩
  have sub : ∀ id o, m.h.get id = some o → s1.h.get id = some o := fun id o hid => (m6 id o hid).1
  refine ⟨E', ms, h1, ⟨fun k v hk => h2.tm k v (m5 k v hk).1, h2.sz, h2.df, ?_⟩, ?_, ⟨h4.nd, h4.lo, h4.at_, fun r hr id o q hid hq => let ⟨u, hu⟩ := dom id o hid; h4.off r hr id u q hu hq⟩⟩
  · show SH C E' m.h.get m.n w'.heap
    rw [m1]; exact h2.sh.sub sub
  · show Post C E s.h s.n w E' m.h.get m.n w'
    rw [m1]; exact h3.sub sub

/-- The second way. -/
theorem meet_second (hm : meetSt L s s1 s2 = some m) (hn : s.n ≤ s1.n) {hp : Array Obj} (s0 : SH C E s.h s.n hp) {e : Exit} {a' : Act} {w' : World} (h : PQ C d E sz s w (.normal, s2) e a' w') : PQ C d E sz s w (.normal, m) e a' w' := by
  obtain ⟨m1, m2, m3, m4, m5, m6⟩ := meetSt_ok hm
  obtain ⟨E', ms, h1, h2, h3, h4⟩ := h
  have lt0 : ∀ id x, s.h.get id = some x → id < s.n := by
    intro id x hid
    rcases Nat.lt_or_ge id s.n with hlt | hge
    · exact hlt
    · obtain ⟨q, hq, _⟩ := s0.hr.obj id x hid
      rw [s0.fresh id hge] at hq; cases hq
  -- the block that stands behind one of the common state's
  have key : ∀ id o, m.h.get id = some o → ∃ j u, s2.h.get j = some u ∧ (E'.rn s.n L).blk id = E'.blk j ∧ renAO s.n L o u = true ∧ ((id < s.n ∧ j = id) ∨ (s.n ≤ id ∧ (id, j) ∈ L ∧ s.n ≤ j)) := by
    intro id o hid
    rcases (m6 id o hid).2 with ⟨j, u, c1, c2, c3⟩ | ⟨u, x, c1, c2, c3⟩
    · obtain ⟨d1, d2, d3⟩ := m4 id j c1
      exact ⟨j, u, c2, by rw [Env.rn_ge d1, m3 id j c1], c3, Or.inr ⟨d1, c1, d3⟩⟩
    · have hlt := lt0 id x c3
      exact ⟨id, u, c1, Env.rn_lt hlt, c2, Or.inl ⟨hlt, rfl⟩⟩
  have img : ∀ k, Img C.G (E'.rn s.n L) m.h k → Img C.G E' s2.h k := by
    rintro k ⟨id, o, q, hG, hid, hq, e⟩
    obtain ⟨j, u, d1, d2, _, d4⟩ := key id o hid
    rw [d2] at hq
    refine ⟨j, u, q, ?_, d1, hq, e⟩
    rcases d4 with ⟨_, rfl⟩ | ⟨_, _, d5⟩
    · exact hG
    · exact Nat.le_trans s0.low d5
  have sh : SH C (E'.rn s.n L) m.h.get m.n w'.heap := by
    refine ⟨⟨fun id o hid => ?_, fun i j oi oj pi pj hi hj hbi hbj e => ?_⟩, fun id hid => ?_, fun g hg => ?_, by rw [m1]; exact Nat.le_trans s0.low hn, h2.sh.kn, ⟨h2.sh.anc.same, fun k hk hi => h2.sh.anc.off k hk (img k hi), h2.sh.anc.size⟩⟩
    · obtain ⟨j, u, d1, d2, d3, _⟩ := key id o hid
      obtain ⟨q, q1, q2⟩ := h2.sh.hr.obj j u d1
      exact ⟨q, by rw [d2]; exact q1, renAO_ok d3 q2⟩
    · obtain ⟨i', u, d1, d2, _, d4⟩ := key i oi hi
      obtain ⟨j', v, e1, e2, _, e4⟩ := key j oj hj
      rw [d2] at hbi
      rw [e2] at hbj
      have hij := h2.sh.hr.inj i' j' u v pi pj d1 e1 hbi hbj e
      rcases d4 with ⟨x1, x2⟩ | ⟨x1, x2, x3⟩ <;> rcases e4 with ⟨y1, y2⟩ | ⟨y1, y2, y3⟩
      · omega
      · omega
      · omega
      · rw [hij] at x2; exact m2 i j j' x2 y2
    · rw [m1] at hid
      rw [Env.rn_ge (Nat.le_trans hn hid)]
      cases ha : asc L id with
      | none => rfl
      | some j => have := (m4 id j (asc_mem ha)).2.1; omega
    · obtain ⟨r, hr⟩ := h2.sh.glob g hg
      have := s0.kn.2.2
      have := s0.low
      exact ⟨r, by rw [Env.rn_lt (by omega)]; exact hr⟩
  refine ⟨E'.rn s.n L, ms, ?_, ⟨fun k v hk => ?_, h2.sz, h2.df, sh⟩, ⟨sh, ⟨⟨h3.fr.le.ints, fun i q hq => ?_, h3.fr.le.opq⟩, h3.fr.os, h3.fr.tape, h3.fr.output, h3.fr.size, h3.fr.same, fun k hk hi => h3.fr.img k hk (img k hi)⟩, by rw [m1]; exact hn, fun id o hid => ?_, fun id hid => ?_⟩, ⟨h4.nd, h4.lo, h4.at_, fun r hr id o q hid hq => ?_⟩⟩
  · simp only [Ex.is] at h1 ⊢; exact h1
  · obtain ⟨_, u, u1, u2⟩ := m5 k v hk
    obtain ⟨x, x1, x2⟩ := h2.tm k u u1
    exact ⟨x, x1, by rw [renV_ok v u u2]; exact x2⟩
  · rcases Nat.lt_or_ge i s.n with hlt | hge
    · rw [Env.rn_lt hlt]; exact h3.fr.le.blk i q hq
    · rw [s0.fresh i hge] at hq; cases hq
  · rcases (m6 id o hid).2 with ⟨j, u, c1, _, _⟩ | ⟨u, x, _, _, c3⟩
    · exact Or.inr (m4 id j c1).1
    · exact Or.inl ⟨x, c3⟩
  · rw [Env.rn_lt hid]; exact h3.old id hid
  · obtain ⟨j, u, d1, d2, _, _⟩ := key id o hid
    rw [d2] at hq
    exact h4.off r hr j u q d1 hq
end
/-! ### Two stores, of which either may come last -/
noncomputable def isConstStore (o : Oper) : Option Nat := match o.guard with
  | some _ => none
  | none => match o.op with
    | .store _ (.tmp p) (.const _) => some p
    | _ => none

noncomputable def noBind (o : Oper) : Bool := o.after.toList.all fun e => match bindsX e with | true => false | false => true
noncomputable def onlyOn (o : Oper) (k : Nat) : Bool := match o.after.toList.all (fun e => match bindsX e with | true => Nat.beq e.on k | false => true) with
  | true => o.after.toList.any fun e => match bindsX e with | true => Nat.beq e.on k | false => false
  | false => false
noncomputable def bindsOn (o : Oper) (k : Nat) : Bool := o.after.toList.any fun e => match bindsX e with | true => Nat.beq e.on k | false => false
noncomputable def lowOn (o : Oper) (k : Nat) : Bool := o.after.toList.all fun e => match bindsX e with | true => Nat.blt e.on k | false => true

noncomputable def flipOk (o0 o1 o2 o3 : Oper) : Bool := match isConstStore o1 with
  | none => false
  | some p => match isConstStore o2 with
    | none => false
    | some q => match Nat.beq p q with
      | false => false
      | true => match noBind o0 with
        | false => false
        | true => match onlyOn o1 0 with
          | false => false
          | true => match onlyOn o2 0 with
            | false => false
            | true => match bindsOn o3 1 with
              | false => false
              | true => match bindsOn o3 2 with
                | false => false
                | true => lowOn o3 3

/-- A region whose order is drawn: the orders that there are. -/
noncomputable def flipL : Code → Option (List Oper × List Oper × List Oper)
  | .region _ ops draw => match draw with
    | false => none
    | true => match ops.toList with
      | [o0, o1, o2, o3] => (match flipOk o0 o1 o2 o3 with
        | true => some ([o0, o1, o2, o3], [o0, o1, o2, o3], [o0, o2, o1, o3])
        | false => none)
      | _ => none
  | _ => none

noncomputable def okAt (o : Oper) (l : Array Bool) : Bool := o.after.all fun e => !Region.binds .any e || l.getD e.on false

theorem okAt_no {o : Oper} {l : Array Bool} (h : noBind o = true) : okAt o l = true := by
  unfold okAt
  rw [Array.all_eq_true']
  intro e he
  have := List.all_eq_true.1 h e (by simpa using he)
  rw [bindsX_eq]
  cases hb : bindsX e with
  | false => rfl
  | true => rw [hb] at this; cases this

theorem okAt_only {o : Oper} {l : Array Bool} {k : Nat} (h : onlyOn o k = true) : okAt o l = l.getD k false := by
  unfold onlyOn at h
  split at h
  case h_2 => cases h
  rename_i ha
  obtain ⟨e, he, hb⟩ := List.any_eq_true.1 h
  split at hb
  case h_2 => cases hb
  rename_i hbe
  have hk := Nat.eq_of_beq_eq_true hb
  unfold okAt
  cases hl : l.getD k false with
  | true =>
    rw [Array.all_eq_true']
    intro x hx
    have := List.all_eq_true.1 ha x (by simpa using hx)
    rw [bindsX_eq]
    cases hbx : bindsX x with
    | false => rfl
    | true =>
      rw [hbx] at this
      rw [Nat.eq_of_beq_eq_true this, hl]; rfl
  | false =>
    rw [Bool.eq_false_iff]
    intro hall
    rw [Array.all_eq_true'] at hall
    have := hall e (by simpa using he)
    rw [bindsX_eq, hbe, hk, hl] at this
    cases this

theorem okAt_binds {o : Oper} {l : Array Bool} {k : Nat} (h : bindsOn o k = true) (hl : l.getD k false = false) : okAt o l = false := by
  obtain ⟨e, he, hb⟩ := List.any_eq_true.1 h
  split at hb
  case h_2 => cases hb
  rename_i hbe
  have hk := Nat.eq_of_beq_eq_true hb
  rw [Bool.eq_false_iff]
  intro hall
  unfold okAt at hall
  rw [Array.all_eq_true'] at hall
  have := hall e (by simpa using he)
  rw [bindsX_eq, hbe, hk, hl] at this
  cases this

theorem okAt_low {o : Oper} {l : Array Bool} {k : Nat} (h : lowOn o k = true) (hl : ∀ j, j < k → l.getD j false = true) : okAt o l = true := by
  unfold okAt
  rw [Array.all_eq_true']
  intro e he
  have := List.all_eq_true.1 h e (by simpa using he)
  rw [bindsX_eq]
  cases hb : bindsX e with
  | false => rfl
  | true =>
    rw [hb] at this
    rw [hl e.on (by simpa [Nat.blt_eq] using this)]; rfl

theorem flip_order {o0 o1 o2 o3 : Oper} (hf : flipOk o0 o1 o2 o3 = true) (t : Nat) : Region.linearise .any #[o0, o1, o2, o3] t = [0, 1, 2, 3] ∨ Region.linearise .any #[o0, o1, o2, o3] t = [0, 2, 1, 3] := by
  unfold flipOk at hf
  split at hf
  · cases hf
  split at hf
  · cases hf
  split at hf
  · cases hf
  split at hf
  · cases hf
  rename_i k0
  split at hf
  · cases hf
  rename_i k1
  split at hf
  · cases hf
  rename_i k2
  split at hf
  · cases hf
  rename_i k31
  split at hf
  · cases hf
  rename_i k32
  have rd : ∀ a b c d : Bool, ((List.range 4).filter fun i => !(#[a, b, c, d] : Array Bool).getD i true && (((#[o0, o1, o2, o3] : Array Oper)[i]?).map (·.after.all fun e => !Region.binds .any e || (#[a, b, c, d] : Array Bool).getD e.on false)).getD false) =
      ((if (!a && okAt o0 #[a, b, c, d]) = true then [0] else []) ++ (if (!b && okAt o1 #[a, b, c, d]) = true then [1] else []) ++ (if (!c && okAt o2 #[a, b, c, d]) = true then [2] else []) ++ (if (!d && okAt o3 #[a, b, c, d]) = true then [3] else [])) := by
    intro a b c d
    have e4 : List.range 4 = [0, 1, 2, 3] := rfl
    rw [e4]
    simp only [List.filter_cons, List.filter_nil]
    show (if (!a && okAt o0 #[a, b, c, d]) = true then 0 :: (if (!b && okAt o1 #[a, b, c, d]) = true then 1 :: (if (!c && okAt o2 #[a, b, c, d]) = true then 2 :: (if (!d && okAt o3 #[a, b, c, d]) = true then [3] else []) else (if (!d && okAt o3 #[a, b, c, d]) = true then [3] else [])) else (if (!c && okAt o2 #[a, b, c, d]) = true then 2 :: (if (!d && okAt o3 #[a, b, c, d]) = true then [3] else []) else (if (!d && okAt o3 #[a, b, c, d]) = true then [3] else []))) else (if (!b && okAt o1 #[a, b, c, d]) = true then 1 :: (if (!c && okAt o2 #[a, b, c, d]) = true then 2 :: (if (!d && okAt o3 #[a, b, c, d]) = true then [3] else []) else (if (!d && okAt o3 #[a, b, c, d]) = true then [3] else [])) else (if (!c && okAt o2 #[a, b, c, d]) = true then 2 :: (if (!d && okAt o3 #[a, b, c, d]) = true then [3] else []) else (if (!d && okAt o3 #[a, b, c, d]) = true then [3] else [])))) = _
    split <;> split <;> split <;> split <;> rfl
  have z : ∀ j, j < 3 → (#[true, true, true, false] : Array Bool).getD j false = true := by intro j hj; match j, hj with | 0, _ => rfl | 1, _ => rfl | 2, _ => rfl
  have r0 : ((List.range 4).filter fun i => !(#[false, false, false, false] : Array Bool).getD i true && (((#[o0, o1, o2, o3] : Array Oper)[i]?).map (·.after.all fun e => !Region.binds .any e || (#[false, false, false, false] : Array Bool).getD e.on false)).getD false) = [0] := by
    rw [rd, okAt_no k0, okAt_only k1, okAt_only k2, okAt_binds k31 rfl]; rfl
  have r1 : ((List.range 4).filter fun i => !(#[true, false, false, false] : Array Bool).getD i true && (((#[o0, o1, o2, o3] : Array Oper)[i]?).map (·.after.all fun e => !Region.binds .any e || (#[true, false, false, false] : Array Bool).getD e.on false)).getD false) = [1, 2] := by
    rw [rd, okAt_no k0, okAt_only k1, okAt_only k2, okAt_binds k31 rfl]; rfl
  have r2 : ((List.range 4).filter fun i => !(#[true, true, false, false] : Array Bool).getD i true && (((#[o0, o1, o2, o3] : Array Oper)[i]?).map (·.after.all fun e => !Region.binds .any e || (#[true, true, false, false] : Array Bool).getD e.on false)).getD false) = [2] := by
    rw [rd, okAt_no k0, okAt_only k1, okAt_only k2, okAt_binds k32 rfl]; rfl
  have r3 : ((List.range 4).filter fun i => !(#[true, false, true, false] : Array Bool).getD i true && (((#[o0, o1, o2, o3] : Array Oper)[i]?).map (·.after.all fun e => !Region.binds .any e || (#[true, false, true, false] : Array Bool).getD e.on false)).getD false) = [1] := by
    rw [rd, okAt_no k0, okAt_only k1, okAt_only k2, okAt_binds k31 rfl]; rfl
  have r4 : ((List.range 4).filter fun i => !(#[true, true, true, false] : Array Bool).getD i true && (((#[o0, o1, o2, o3] : Array Oper)[i]?).map (·.after.all fun e => !Region.binds .any e || (#[true, true, true, false] : Array Bool).getD e.on false)).getD false) = [3] := by
    rw [rd, okAt_no k0, okAt_only k1, okAt_only k2, okAt_low hf z]; rfl
  have s4 : (#[o0, o1, o2, o3] : Array Oper).size = 4 := rfl
  unfold Region.linearise
  rw [s4]
  have e0 : Array.replicate 4 false = #[false, false, false, false] := rfl
  rw [e0]
  have g : ∀ (fuel t : Nat) (l : Array Bool) (acc : List Nat), Region.linearise.go .any #[o0, o1, o2, o3] (fuel + 1) t l acc = (match ((List.range 4).filter fun i => !l.getD i true && (((#[o0, o1, o2, o3] : Array Oper)[i]?).map (·.after.all fun e => !Region.binds .any e || l.getD e.on false)).getD false)[t % ((List.range 4).filter fun i => !l.getD i true && (((#[o0, o1, o2, o3] : Array Oper)[i]?).map (·.after.all fun e => !Region.binds .any e || l.getD e.on false)).getD false).length]? with
      | some i => Region.linearise.go .any #[o0, o1, o2, o3] fuel (t / ((List.range 4).filter fun i => !l.getD i true && (((#[o0, o1, o2, o3] : Array Oper)[i]?).map (·.after.all fun e => !Region.binds .any e || l.getD e.on false)).getD false).length) (l.setIfInBounds i true) (i :: acc)
      | none => acc.reverse) := fun _ _ _ _ => rfl
  rw [g, r0]
  have m1 : ∀ t : Nat, t % [0].length = 0 := fun t => Nat.mod_one t
  have n1 : ∀ (x t : Nat), ([x] : List Nat)[t % [x].length]? = some x := fun x t => by rw [show t % [x].length = 0 from Nat.mod_one t]; rfl
  rw [n1]
  simp only
  rw [show (#[false, false, false, false] : Array Bool).setIfInBounds 0 true = #[true, false, false, false] from rfl, g, r1]
  have n2 : ([1, 2] : List Nat)[(t / [0].length) % [1, 2].length]? = some 1 ∨ ([1, 2] : List Nat)[(t / [0].length) % [1, 2].length]? = some 2 := by
    have h2 : (t / [0].length) % [1, 2].length = 0 ∨ (t / [0].length) % [1, 2].length = 1 := by
      show (t / [0].length) % 2 = 0 ∨ (t / [0].length) % 2 = 1
      omega
    rcases h2 with h2 | h2 <;> rw [h2]
    · exact Or.inl rfl
    · exact Or.inr rfl
  rcases n2 with n2 | n2
  · left
    rw [n2]
    simp only
    rw [show (#[true, false, false, false] : Array Bool).setIfInBounds 1 true = #[true, true, false, false] from rfl, g, r2, n1]
    simp only
    rw [show (#[true, true, false, false] : Array Bool).setIfInBounds 2 true = #[true, true, true, false] from rfl, g, r4, n1]
    rfl
  · right
    rw [n2]
    simp only
    rw [show (#[true, false, false, false] : Array Bool).setIfInBounds 2 true = #[true, false, true, false] from rfl, g, r3, n1]
    simp only
    rw [show (#[true, false, true, false] : Array Bool).setIfInBounds 1 true = #[true, true, true, false] from rfl, g, r4, n1]
    rfl

theorem opsIn_cons {F : Fence} {n : Nat} {P : Program} {ops : Array Oper} {Q : Exit → Act → World → Prop} {i : Nat} {r : List Nat} {o : Oper} {l : List Oper} (h : ops[i]? = some o) (ih : wpOpsIn F n P ops Q r = wpListIn F n P ops Q l) : wpOpsIn F n P ops Q (i :: r) = wpListIn F n P ops Q (o :: l) := by
  funext a w
  rw [wpOpsIn_cons]
  unfold wpOpIn wpListIn
  rw [h]
  simp only [ih]

/-- Both orders. -/
theorem flip_ok {F : Fence} {n : Nat} {P : Program} (hm : P.follows .mixedOrders = true) {id : Nat} {ops : Array Oper} {all l1 l2 : List Oper} (hf : flipL (.region id ops true) = some (all, l1, l2)) {Q : Exit → Act → World → Prop} {a : Act} {w : World}
    (h1 : wpListIn F n P ops Q l1 a { w with drawn := w.drawn + 1 }) (h2 : wpListIn F n P ops Q l2 a { w with drawn := w.drawn + 1 }) : all = ops.toList ∧ (Code.region id ops true).wpIn F n P Q a w := by
  simp only [flipL] at hf
  split at hf
  case h_2 => cases hf
  rename_i o0 o1 o2 o3 hl
  split at hf
  case h_2 => cases hf
  rename_i hok
  cases hf
  have hops : ops = #[o0, o1, o2, o3] := by
    cases ops with
    | mk l => simp only at hl; rw [hl]
  refine ⟨hl.symm, wpIn_region_draw fun t => ?_⟩
  subst hops
  rw [show Region.schedule (P.follows .mixedOrders) #[o0, o1, o2, o3] t = Region.linearise .any #[o0, o1, o2, o3] t by simp only [Region.schedule, hm, Bool.true_or, if_true]]
  have nil : wpOpsIn F n P #[o0, o1, o2, o3] Q [] = wpListIn F n P #[o0, o1, o2, o3] Q [] := rfl
  rcases flip_order hok t with e | e <;> rw [e]
  · rw [opsIn_cons (o := o0) rfl (opsIn_cons (o := o1) rfl (opsIn_cons (o := o2) rfl (opsIn_cons (o := o3) rfl nil)))]
    exact h1
  · rw [opsIn_cons (o := o0) rfl (opsIn_cons (o := o2) rfl (opsIn_cons (o := o1) rfl (opsIn_cons (o := o3) rfl nil)))]
    exact h2

/-! ### Which new blocks stand for which -/
abbrev LK := List (Nat × Nat) × List (Nat × Nat)
noncomputable def addP (n0 i j : Nat) (st : LK) : LK := match Nat.blt i n0 with
  | true => st
  | false => match asc st.2 i with
    | some _ => st
    | none => ((i, j) :: st.1, (i, j) :: st.2)

mutual
noncomputable def zipV (n0 : Nat) : SV → SV → LK → LK
  | .ptr i _, .ptr j _, st => addP n0 i j st
  | .slice i _ _ _, .slice j _ _ _, st => addP n0 i j st
  | .map i, .map j, st => addP n0 i j st
  | .iface _ v, .iface _ v', st => zipV n0 v v' st
  | .agg a, .agg b, st => zipL n0 a b st
  | .tuple a, .tuple b, st => zipL n0 a b st
  | _, _, st => st
noncomputable def zipL (n0 : Nat) : List SV → List SV → LK → LK
  | u :: us, v :: vs, st => zipL n0 us vs (zipV n0 u v st)
  | _, _, st => st
end

noncomputable def zipAO (n0 : Nat) (a b : AO) (st : LK) : LK := match a with
  | .cells x _ _ _ => (match b with
    | .cells y _ _ _ => zipL n0 x y st
    | _ => st)
  | _ => st

noncomputable def zipT (n0 : Nat) : Tr AO → Tr AO → LK → LK
  | .node l v r, .node l' v' r', st => zipT n0 r r' (zipT n0 l l' (match v with
    | some a => (match v' with
      | some b => zipAO n0 a b st
      | none => st)
    | none => st))
  | _, _, st => st

noncomputable def closeX (n0 : Nat) (h1 h2 : Tr AO) : Nat → LK → List (Nat × Nat)
  | 0, st => st.2
  | f + 1, (todo, acc) => match todo with
    | [] => acc
    | (i, j) :: r => match h1.get i with
      | none => closeX n0 h1 h2 f (r, acc)
      | some a => match h2.get j with
        | none => closeX n0 h1 h2 f (r, acc)
        | some b => match zipAO n0 a b ([], acc) with
          | (new, acc') => closeX n0 h1 h2 f (new ++ r, acc')

noncomputable def linkX (s s1 s2 : St) : List (Nat × Nat) := closeX s.n s1.h s2.h 500 (zipT s.n (Tr.meet (fun _ _ => true) s1.h s.h) s2.h ([], []))

/-- Two ways that end alike. -/
noncomputable def mergeX (s : St) (r1 r2 : Ex × St) : Option (Ex × St) := match r1 with
  | (e1, s1) => match e1 with
    | .normal => (match r2 with
      | (e2, s2) => match e2 with
        | .normal => (match Nat.ble s.n s1.n with
          | true => (match meetSt (linkX s s1 s2) s s1 s2 with
            | some m => some (.normal, m)
            | none => none)
          | false => none)
        | _ => none)
    | _ => none

theorem mergeX_ok {C : Cx} {d : List Deferred} {s : St} {E : Env} {sz : Nat} {w : World} {r1 r2 r : Ex × St} (h : mergeX s r1 r2 = some r) {hp : Array Obj} (s0 : SH C E s.h s.n hp) {e : Exit} {a' : Act} {w' : World} :
    (PQ C d E sz s w r1 e a' w' → PQ C d E sz s w r e a' w') ∧ (PQ C d E sz s w r2 e a' w' → PQ C d E sz s w r e a' w') := by
  obtain ⟨e1, s1⟩ := r1
  obtain ⟨e2, s2⟩ := r2
  simp only [mergeX] at h
  split at h
  case h_2 => cases h
  split at h
  case h_2 => cases h
  split at h
  case h_2 => cases h
  rename_i hn
  split at h
  case h_2 => cases h
  rename_i m hm
  cases h
  exact ⟨meet_first hm, meet_second hm (Nat.le_of_ble_eq_true hn) s0⟩

theorem flip_all {id : Nat} {ops : Array Oper} {all l1 l2 : List Oper} (hf : flipL (.region id ops true) = some (all, l1, l2)) : all = ops.toList := by
  simp only [flipL] at hf
  split at hf
  case h_2 => cases hf
  rename_i hl
  split at hf
  case h_2 => cases hf
  cases hf
  exact hl.symm
end Go.Xq
