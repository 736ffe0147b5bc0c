/-
  A run of closed code by the kernel: loops, by induction: a state of which numbers are put in the place of named ones.
-/
import Derived.Test.YtknpoojkjmgihaaXy
namespace Go.Xq
open Go.RowKit
set_option linter.unusedVariables false

/-! ### Numbers in the place of named ones -/
noncomputable def SI.sub (σ : Nat → SI) : SI → SI
  | .lit n => .lit n
  | .var i => σ i
  | .bin op k a b => .bin op k (a.sub σ) (b.sub σ)
  | .conv k a => .conv k (a.sub σ)

theorem SI.sub_den (σ : Nat → SI) (I : Nat → Int) : ∀ e : SI, (e.sub σ).den I = e.den fun i => (σ i).den I
  | .lit n => rfl
  | .var i => rfl
  | .bin op k a b => by simp only [SI.sub, SI.den, SI.sub_den σ I a, SI.sub_den σ I b]
  | .conv k a => by simp only [SI.sub, SI.den, SI.sub_den σ I a]

mutual
noncomputable def SV.sub (σ : Nat → SI) : SV → SV
  | .int k e => .int k (e.sub σ)
  | .func fn a b => .func fn (subL σ a) (subL σ b)
  | .iface t v => .iface t (v.sub σ)
  | .agg cs => .agg (subL σ cs)
  | .tuple cs => .tuple (subL σ cs)
  | .bool b => .bool b
  | .str s => .str s
  | .nilptr => .nilptr
  | .ptr i o => .ptr i o
  | .nilslice => .nilslice
  | .slice i o n c => .slice i o n c
  | .nilmap => .nilmap
  | .map i => .map i
  | .nilfunc => .nilfunc
  | .nilIface => .nilIface
  | .opq i => .opq i
  | .ostr i => .ostr i
  | .oslice i => .oslice i
  | .optr i k => .optr i k
  | .yld i => .yld i
noncomputable def subL (σ : Nat → SI) : List SV → List SV
  | [] => []
  | v :: r => v.sub σ :: subL σ r
end

mutual
/-- All blocks that it speaks of have lower numbers. -/
noncomputable def SV.under (n : Nat) : SV → Bool
  | .func _ a b => match underL n a with | true => underL n b | false => false
  | .iface _ v => v.under n
  | .agg cs => underL n cs
  | .tuple cs => underL n cs
  | .ptr i _ => Nat.blt i n
  | .slice i _ _ _ => Nat.blt i n
  | .map i => Nat.blt i n
  | .yld i => Nat.blt i n
  | _ => true
noncomputable def underL (n : Nat) : List SV → Bool
  | [] => true
  | v :: r => match v.under n with | true => underL n r | false => false
end

/-- Other numbers, and the blocks below n alone. -/
noncomputable def Env.re (E : Env) (I : Nat → Int) (n : Nat) : Env := ⟨I, fun id => if id < n then E.blk id else none, E.opq⟩

theorem Env.re_blk {E : Env} {I : Nat → Int} {n id : Nat} (h : id < n) : (E.re I n).blk id = E.blk id := if_pos h

mutual
theorem SV.re_den {E : Env} {σ : Nat → SI} {n : Nat} : ∀ v : SV, v.under n = true → v.den (E.re (fun i => (σ i).den E.ints) n) = (v.sub σ).den E
  | .int k e, _ => by simp only [SV.den, SV.sub, SI.sub_den]; rfl
  | .func fn a b, h => by
    simp only [SV.under] at h
    split at h
    · rename_i h1
      simp only [SV.den, SV.sub, subL_re_den a h1, subL_re_den b h]
    · cases h
  | .iface t v, h => by
    simp only [SV.under] at h
    simp only [SV.den, SV.sub, SV.re_den v h]
  | .agg cs, h => by
    simp only [SV.under] at h
    simp only [SV.den, SV.sub, subL_re_den cs h]
  | .tuple cs, h => by
    simp only [SV.under] at h
    simp only [SV.den, SV.sub, subL_re_den cs h]
  | .ptr i o, h => by
    simp only [SV.under, Nat.blt_eq] at h
    simp only [SV.den, SV.sub, Env.re_blk h]
  | .slice i o m c, h => by
    simp only [SV.under, Nat.blt_eq] at h
    simp only [SV.den, SV.sub, Env.re_blk h]
  | .map i, h => by
    simp only [SV.under, Nat.blt_eq] at h
    simp only [SV.den, SV.sub, Env.re_blk h]
  | .yld i, h => by
    simp only [SV.under, Nat.blt_eq] at h
    simp only [SV.den, SV.sub, Env.re_blk h]
  | .bool b, _ => rfl
  | .str s, _ => rfl
  | .nilptr, _ => rfl
  | .nilslice, _ => rfl
  | .nilmap, _ => rfl
  | .nilfunc, _ => rfl
  | .nilIface, _ => rfl
  | .opq i, _ => rfl
  | .ostr i, _ => rfl
  | .oslice i, _ => rfl
  | .optr i k, _ => rfl
theorem subL_re_den {E : Env} {σ : Nat → SI} {n : Nat} : ∀ l : List SV, underL n l = true → denL (E.re (fun i => (σ i).den E.ints) n) l = denL E (subL σ l)
  | [], _ => rfl
  | v :: r, h => by
    simp only [underL] at h
    split at h
    · rename_i h1
      simp only [denL, subL, SV.re_den v h1, subL_re_den r h]
    · cases h
end

noncomputable def AO.sub (σ : Nat → SI) : AO → AO
  | .cells cs e s m => .cells (subL σ cs) e s m
  | .map es => .map (es.map fun p => (p.1.sub σ, p.2.sub σ))
  | o => o

noncomputable def underE (n : Nat) : List (SV × SV) → Bool
  | [] => true
  | (a, b) :: r => match a.under n with | true => (match b.under n with | true => underE n r | false => false) | false => false

/-- Rows of cells and maps, that speak of such blocks alone. -/
noncomputable def AO.under (n : Nat) : AO → Bool
  | .cells cs _ _ _ => underL n cs
  | .map es => underE n es
  | _ => false

theorem denE_re {E : Env} {σ : Nat → SI} {n : Nat} : ∀ {l : List (SV × SV)} {es : List MapEntry}, underE n l = true → denE E (l.map fun p => (p.1.sub σ, p.2.sub σ)) es → denE (E.re (fun i => (σ i).den E.ints) n) l es
  | [], es, _, h => h
  | (a, b) :: r, es, hb, ⟨e, es', h1, h2, h3, h4⟩ => by
    simp only [underE] at hb
    split at hb
    · rename_i ha
      split at hb
      · rename_i hb'
        exact ⟨e, es', h1, by rw [SV.re_den a ha]; exact h2, by rw [SV.re_den b hb']; exact h3, denE_re hb h4⟩
      · cases hb
    · cases hb

theorem AO.re_rel {E : Env} {σ : Nat → SI} {n : Nat} {p : Nat × Nat} {hp : Array Obj} {o : AO} (hb : o.under n = true) (h : (o.sub σ).rel E p hp) : o.rel (E.re (fun i => (σ i).den E.ints) n) p hp := by
  cases o with
  | cells cs e s m =>
    obtain ⟨vs, rest, fz, a, b, c⟩ := h
    exact ⟨vs, rest, fz, by rw [subL_re_den cs hb]; exact a, b, c⟩
  | map es =>
    obtain ⟨ents, clock, a, b⟩ := h
    exact ⟨ents, clock, a, denE_re hb b⟩
  | siter _ _ => cases hb
  | ro _ => cases hb
  | loop _ _ _ _ _ _ _ => cases hb

/-! ### States that are told by lists -/
structure Pat where
  t : List (Nat × SV)
  h : List (Nat × AO)
  n : Nat

noncomputable def addT : List (Nat × SV) → Tr SV → Option (Tr SV)
  | [], t => some t
  | (k, v) :: r, t => match Tr.upd 24 t k (some v) with
    | none => none
    | some t' => addT r t'

theorem addT_get : ∀ {l : List (Nat × SV)} {t t' : Tr SV}, addT l t = some t' → ∀ k v, t'.get k = some v → (k, v) ∈ l ∨ t.get k = some v
  | [], t, t', h, k, v, hk => by simp only [addT, Option.some.injEq] at h; subst h; exact Or.inr hk
  | (j, u) :: r, t, t', h, k, v, hk => by
    simp only [addT] at h
    split at h
    · cases h
    rename_i t1 hu
    rcases addT_get h k v hk with h1 | h1
    · exact Or.inl (List.mem_cons_of_mem _ h1)
    · rw [Tr.get_upd _ _ _ _ _ hu] at h1
      by_cases e : k = j
      · rw [if_pos e] at h1; cases h1; subst e; exact Or.inl List.mem_cons_self
      · rw [if_neg e] at h1; exact Or.inr h1

theorem addH_mem : ∀ {l : List (Nat × AO)} {t t' : Tr AO}, addH l t = some t' → ∀ k v, t'.get k = some v → (k, v) ∈ l ∨ t.get k = some v
  | [], t, t', h, k, v, hk => by simp only [addH, Option.some.injEq] at h; subst h; exact Or.inr hk
  | (j, u) :: r, t, t', h, k, v, hk => by
    simp only [addH] at h
    split at h
    · cases h
    rename_i t1 hu
    rcases addH_mem h k v hk with h1 | h1
    · exact Or.inl (List.mem_cons_of_mem _ h1)
    · rw [Tr.get_upd _ _ _ _ _ hu] at h1
      by_cases e : k = j
      · rw [if_pos e] at h1; cases h1; subst e; exact Or.inl List.mem_cons_self
      · rw [if_neg e] at h1; exact Or.inr h1

/-- The state that a pattern tells. -/
noncomputable def Pat.st (p : Pat) : Option St := match addT p.t .nil with
  | none => none
  | some t => match addH p.h .nil with
    | none => none
    | some h => some ⟨t, h, p.n⟩

noncomputable def fitT (σ : Nat → SI) (n : Nat) (t : Tr SV) : List (Nat × SV) → Bool
  | [] => true
  | (k, v) :: r => match t.get k with
    | none => false
    | some u => match beqSV u (v.sub σ) with
      | false => false
      | true => match v.under n with
        | false => false
        | true => fitT σ n t r

noncomputable def fitH (σ : Nat → SI) (n : Nat) (h : Tr AO) : List (Nat × AO) → Bool
  | [] => true
  | (k, o) :: r => match h.get k with
    | none => false
    | some u => match beqAO u (o.sub σ) with
      | false => false
      | true => match o.under n with
        | false => false
        | true => match Nat.blt k n with
          | false => false
          | true => fitH σ n h r

/-- A state is one that a pattern tells, with such numbers. -/
noncomputable def fit (σ : Nat → SI) (p : Pat) (s : St) : Bool := match Nat.ble p.n s.n with
  | false => false
  | true => match fitT σ p.n s.t p.t with
    | false => false
    | true => fitH σ p.n s.h p.h

theorem fitT_ok {σ : Nat → SI} {n : Nat} {t : Tr SV} : ∀ {l : List (Nat × SV)}, fitT σ n t l = true → ∀ k v, (k, v) ∈ l → t.get k = some (v.sub σ) ∧ v.under n = true
  | [], _, _, _, h => nomatch h
  | (j, u) :: r, h, k, v, hm => by
    simp only [fitT] at h
    split at h
    · cases h
    rename_i x hx
    split at h
    · cases h
    rename_i hb
    split at h
    · cases h
    rename_i hl
    rcases List.mem_cons.1 hm with e | hm
    · cases e
      rw [hx, beqSV_eq _ _ hb]
      exact ⟨rfl, hl⟩
    · exact fitT_ok h k v hm

theorem fitH_ok {σ : Nat → SI} {n : Nat} {h : Tr AO} : ∀ {l : List (Nat × AO)}, fitH σ n h l = true → ∀ k o, (k, o) ∈ l → h.get k = some (o.sub σ) ∧ o.under n = true ∧ k < n
  | [], _, _, _, h => nomatch h
  | (j, u) :: r, h, k, v, hm => by
    simp only [fitH] at h
    split at h
    · cases h
    rename_i x hx
    split at h
    · cases h
    rename_i hb
    split at h
    · cases h
    rename_i hl
    split at h
    · cases h
    rename_i hk
    rcases List.mem_cons.1 hm with e | hm
    · cases e
      rw [hx, beqAO_eq hb]
      exact ⟨rfl, hl, by simpa [Nat.blt_eq] using hk⟩
    · exact fitH_ok h k v hm

/-- The two contexts speak of the same memory. -/
noncomputable def SameM (C C' : Cx) : Prop := C'.g0 = C.g0 ∧ C'.G = C.G ∧ C'.base = C.base ∧ C'.heap0 = C.heap0

/-- A state that fits is the pattern's, with other numbers. -/
theorem fit_sr {C C' : Cx} (hm : SameM C C') {d : List Deferred} {σ : Nat → SI} {p : Pat} {s s' : St} (hst : p.st = some s') (hf : fit σ p s = true) {E : Env} {sz : Nat} {a : Act} {w : World} (sr : SR C d E sz s a w) (hg : C.G ≤ p.n)
    (hkn : FactsOk C'.facts (fun i => (σ i).den E.ints) ∧ C'.K (fun i => (σ i).den E.ints) E.opq) : SR C' d (E.re (fun i => (σ i).den E.ints) p.n) sz s' a w := by
  obtain ⟨m1, m2, m3, m4⟩ := hm
  unfold Pat.st at hst
  split at hst
  · cases hst
  rename_i t ht
  split at hst
  · cases hst
  rename_i h hh
  cases hst
  unfold fit at hf
  split at hf
  · cases hf
  rename_i hn
  split at hf
  · cases hf
  rename_i h1
  have hT := fitT_ok h1
  have hH := fitH_ok hf
  have hmemT : ∀ k v, t.get k = some v → (k, v) ∈ p.t := fun k v hk => (addT_get ht k v hk).resolve_right (by rw [Tr.get_nil]; exact fun e => nomatch e)
  have hmemH : ∀ k v, h.get k = some v → (k, v) ∈ p.h := fun k v hk => (addH_mem hh k v hk).resolve_right (by rw [Tr.get_nil]; exact fun e => nomatch e)
  have himg : ∀ j, Img C.G (E.re (fun i => (σ i).den E.ints) p.n) h j → Img C.G E s.h j := by
    rintro j ⟨id, o, q, hG, hid, hq, e⟩
    obtain ⟨a1, _, a3⟩ := hH id o (hmemH id o hid)
    rw [Env.re_blk a3] at hq
    exact ⟨id, _, q, hG, a1, hq, e⟩
  refine ⟨fun k v hk => ?_, sr.sz, sr.df, ⟨⟨fun id o hid => ?_, fun i j oi oj pi pj hi hj hbi hbj e => ?_⟩, fun id hid => ?_, fun g hg' => ?_, by rw [m2]; exact hg, ⟨hkn.1, hkn.2, by rw [m1, m2]; exact sr.sh.kn.2.2⟩, ⟨by rw [m3, m4]; exact sr.sh.anc.same, fun k hk hi => ?_, by rw [m3]; exact sr.sh.anc.size⟩⟩⟩
  · obtain ⟨a1, a2⟩ := hT k v (hmemT k v hk)
    obtain ⟨x, b1, b2⟩ := sr.tm k _ a1
    exact ⟨x, b1, by rw [SV.re_den v a2]; exact b2⟩
  · obtain ⟨a1, a2, a3⟩ := hH id o (hmemH id o hid)
    obtain ⟨q, b1, b2⟩ := sr.sh.hr.obj id _ a1
    exact ⟨q, by rw [Env.re_blk a3]; exact b1, AO.re_rel a2 b2⟩
  · obtain ⟨a1, _, a3⟩ := hH i oi (hmemH i oi hi)
    obtain ⟨b1, _, b3⟩ := hH j oj (hmemH j oj hj)
    rw [Env.re_blk a3] at hbi
    rw [Env.re_blk b3] at hbj
    exact sr.sh.hr.inj i j _ _ pi pj a1 b1 hbi hbj e
  · show (if id < p.n then E.blk id else none) = none
    have hid' : p.n ≤ id := hid
    rw [if_neg (by omega)]
  · rw [m1] at hg'
    obtain ⟨r, hr⟩ := sr.sh.glob g hg'
    have := sr.sh.kn.2.2
    exact ⟨r, by rw [Env.re_blk (by omega)]; exact hr⟩
  · rw [m3] at hk
    rw [m2] at hi
    exact sr.sh.anc.off k hk (himg k hi)

/-! ### Results: equal numbers -/
noncomputable def memQ : List (SI × SI) → SI → SI → Bool
  | [], _, _ => false
  | (a, b) :: r, e, f => match beqSI a e with
    | true => (match beqSI b f with | true => true | false => memQ r e f)
    | false => memQ r e f

theorem memQ_ok {I : Nat → Int} : ∀ {l : List (SI × SI)} {e f : SI}, memQ l e f = true → (∀ a b, (a, b) ∈ l → a.den I = b.den I) → e.den I = f.den I
  | [], _, _, h, _ => nomatch h
  | (a, b) :: r, e, f, h, hl => by
    have tl : memQ r e f = true → e.den I = f.den I := fun h => memQ_ok h (fun a b hm => hl a b (List.mem_cons_of_mem _ hm))
    simp only [memQ] at h
    split at h
    · rename_i h1
      split at h
      · rename_i h2
        rw [← beqSI_eq h1, ← beqSI_eq h2]
        exact hl a b List.mem_cons_self
      · exact tl h
    · exact tl h

noncomputable def relV (q : List (SI × SI)) (u v : SV) : Bool := match beqSV u v with
  | true => true
  | false => match u, v with
    | .int k e, .int k' f => (match Nat.beq (kN k) (kN k') with | true => memQ q e f | false => false)
    | _, _ => false

theorem relV_ok {q : List (SI × SI)} {E : Env} (hq : ∀ a b, (a, b) ∈ q → a.den E.ints = b.den E.ints) {u v : SV} (h : relV q u v = true) : v.den E = u.den E := by
  unfold relV at h
  split at h
  · rename_i hb; rw [beqSV_eq _ _ hb]
  · split at h
    · split at h
      · rename_i hk
        simp only [SV.den]
        rw [kN_inj hk, memQ_ok h hq]
      · cases h
    · cases h

noncomputable def relL (q : List (SI × SI)) : List SV → List SV → Bool
  | [], [] => true
  | u :: us, v :: vs => match relV q u v with | true => relL q us vs | false => false
  | _, _ => false

theorem relL_ok {q : List (SI × SI)} {E : Env} (hq : ∀ a b, (a, b) ∈ q → a.den E.ints = b.den E.ints) : ∀ {us vs : List SV}, relL q us vs = true → denL E vs = denL E us
  | [], [], _ => rfl
  | u :: us, v :: vs, h => by
    simp only [relL] at h
    split at h
    · rename_i h1
      simp only [denL, relV_ok hq h1, relL_ok hq h]
    · cases h
  | [], _ :: _, h => by simp [relL] at h
  | _ :: _, [], h => by simp [relL] at h

noncomputable def relAO (q : List (SI × SI)) : AO → AO → Bool
  | .cells a e s m, .cells b f t k => match relL q a b with
    | true => (match Nat.beq e f with
      | true => (match beqO s t with
        | true => (match m with | true => k | false => notB k)
        | false => false)
      | false => false)
    | false => false
  | .map a, .map b => beqEs a b
  | _, _ => false

theorem relAO_ok {q : List (SI × SI)} {E : Env} (hq : ∀ a b, (a, b) ∈ q → a.den E.ints = b.den E.ints) {p : Nat × Nat} {hp : Array Obj} {u v : AO} (h : relAO q u v = true) (k : u.rel E p hp) : v.rel E p hp := by
  cases u <;> cases v <;> simp only [relAO] at h <;> try (cases h; done)
  · split at h
    · rename_i h1
      split at h
      · rename_i h2
        split at h
        · rename_i h3
          obtain ⟨vs, rest, fz, a, b, c⟩ := k
          rw [Nat.eq_of_beq_eq_true h2, beqO_eq h3, beqB2 h] at *
          exact ⟨vs, rest, fz, by rw [relL_ok hq h1]; exact a, b, c⟩
        · cases h
      · cases h
    · cases h
  · rw [← beqEs_eq h]; exact k

/-- What a loop leaves, told by lists: no more than there is, of equal numbers. -/
noncomputable def outT (q : List (SI × SI)) (t : Tr SV) : List (Nat × SV) → Bool
  | [] => true
  | (k, v) :: r => match t.get k with
    | none => false
    | some u => match relV q u v with
      | false => false
      | true => outT q t r

noncomputable def outH (q : List (SI × SI)) (h : Tr AO) : List (Nat × AO) → Bool
  | [] => true
  | (k, o) :: r => match h.get k with
    | none => false
    | some u => match relAO q u o with
      | false => false
      | true => outH q h r

noncomputable def isOut (q : List (SI × SI)) (p : Pat) (s : St) : Bool := match Nat.beq p.n s.n with
  | false => false
  | true => match outT q s.t p.t with
    | false => false
    | true => outH q s.h p.h

theorem outT_ok {q : List (SI × SI)} {t : Tr SV} : ∀ {l : List (Nat × SV)}, outT q t l = true → ∀ k v, (k, v) ∈ l → ∃ u, t.get k = some u ∧ relV q u v = true
  | [], _, _, _, h => nomatch h
  | (j, x) :: r, h, k, v, hm => by
    simp only [outT] at h
    split at h
    · cases h
    rename_i u hu
    split at h
    · cases h
    rename_i hr
    rcases List.mem_cons.1 hm with e | hm
    · cases e; exact ⟨u, hu, hr⟩
    · exact outT_ok h k v hm

theorem outH_ok {q : List (SI × SI)} {t : Tr AO} : ∀ {l : List (Nat × AO)}, outH q t l = true → ∀ k v, (k, v) ∈ l → ∃ u, t.get k = some u ∧ relAO q u v = true
  | [], _, _, _, h => nomatch h
  | (j, x) :: r, h, k, v, hm => by
    simp only [outH] at h
    split at h
    · cases h
    rename_i u hu
    split at h
    · cases h
    rename_i hr
    rcases List.mem_cons.1 hm with e | hm
    · cases e; exact ⟨u, hu, hr⟩
    · exact outH_ok h k v hm

theorem Pat.st_mem {p : Pat} {s : St} (h : p.st = some s) : s.n = p.n ∧ (∀ k v, s.t.get k = some v → (k, v) ∈ p.t) ∧ ∀ k o, s.h.get k = some o → (k, o) ∈ p.h := by
  unfold Pat.st at h
  split at h
  · cases h
  rename_i t ht
  split at h
  · cases h
  rename_i h1 hh
  cases h
  exact ⟨rfl, fun k v hk => (addT_get ht k v hk).resolve_right (by rw [Tr.get_nil]; exact fun e => nomatch e), fun k v hk => (addH_mem hh k v hk).resolve_right (by rw [Tr.get_nil]; exact fun e => nomatch e)⟩

theorem SH.dom {C : Cx} {E : Env} {h : Nat → Option AO} {n : Nat} {hp : Array Obj} (s : SH C E h n hp) {h' : Nat → Option AO} (dom : ∀ id o, h' id = some o → (∃ u, h id = some u) ∧ ∀ q, E.blk id = some q → o.rel E q hp) : SH C E h' n hp := by
  refine ⟨⟨fun id o hid => ?_, fun i j oi oj pi pj hi hj hbi hbj e => ?_⟩, s.fresh, s.glob, s.low, s.kn, ⟨s.anc.same, fun k hk hi => ?_, s.anc.size⟩⟩
  · obtain ⟨⟨u, a1⟩, a2⟩ := dom id o hid
    obtain ⟨q, b1, _⟩ := s.hr.obj id u a1
    exact ⟨q, b1, a2 q b1⟩
  · obtain ⟨⟨u, a1⟩, _⟩ := dom i oi hi
    obtain ⟨⟨u', a1'⟩, _⟩ := dom j oj hj
    exact s.hr.inj i j u u' pi pj a1 a1' hbi hbj e
  · obtain ⟨id, o, p1, h1, h2, h3, h4⟩ := hi
    obtain ⟨⟨u, a1⟩, _⟩ := dom id o h2
    exact s.anc.off k hk ⟨id, u, p1, h1, a1, h3, h4⟩

/-- What a run left, of the same blocks. -/
theorem Post.dom {C : Cx} {E E' : Env} {h h' h'' : Nat → Option AO} {n n' : Nat} {w w' : World} (p : Post C E h n w E' h' n' w') (s : SH C E' h'' n' w'.heap) (dom : ∀ id o, h'' id = some o → ∃ u, h' id = some u) : Post C E h n w E' h'' n' w' :=
  ⟨s, ⟨p.fr.le, p.fr.os, p.fr.tape, p.fr.output, p.fr.size, p.fr.same, fun j hj ⟨i, o, q, a, b, c, d⟩ => let ⟨u, hu⟩ := dom i o b; p.fr.img j hj ⟨i, u, q, a, hu, c, d⟩⟩, p.mono, fun id o e => let ⟨u, hu⟩ := dom id o e; p.new id u hu, p.old⟩

theorem MkOk.dom {E : Env} {h h' : Nat → Option AO} {lo : Nat} {w : World} {ms : List Nat} (m : MkOk E h lo w ms) (dom : ∀ id o, h' id = some o → ∃ u, h id = some u) : MkOk E h' lo w ms :=
  ⟨m.nd, m.lo, m.at_, fun r hr id o q hid hq => let ⟨u, hu⟩ := dom id o hid; m.off r hr id u q hu hq⟩

/-- The outcome of a run, as it is told. -/
theorem out_sr {C : Cx} {d : List Deferred} {q : List (SI × SI)} {p : Pat} {s s' : St} (hst : p.st = some s') (ho : isOut q p s = true) {E : Env} (hq : ∀ a b, (a, b) ∈ q → a.den E.ints = b.den E.ints) {sz : Nat} {a : Act} {w : World} (sr : SR C d E sz s a w) :
    SR C d E sz s' a w ∧ (∀ id o, s'.h.get id = some o → ∃ u, s.h.get id = some u) ∧ s'.n = s.n := by
  obtain ⟨e1, e2, e3⟩ := Pat.st_mem hst
  unfold isOut at ho
  split at ho
  · cases ho
  rename_i hn
  split at ho
  · cases ho
  rename_i h1
  have hT := outT_ok h1
  have hH := outH_ok ho
  have hn' : s'.n = s.n := by rw [e1, Nat.eq_of_beq_eq_true hn]
  have sub : ∀ id o, s'.h.get id = some o → ∃ u, s.h.get id = some u ∧ relAO q u o = true := fun id o hid => hH id o (e3 id o hid)
  refine ⟨⟨fun k v hk => ?_, sr.sz, sr.df, ?_⟩, fun id o hid => let ⟨u, a1, _⟩ := sub id o hid; ⟨u, a1⟩, hn'⟩
  · obtain ⟨u, a1, a2⟩ := hT k v (e2 k v hk)
    obtain ⟨x, b1, b2⟩ := sr.tm k u a1
    exact ⟨x, b1, by rw [relV_ok hq a2]; exact b2⟩
  · rw [hn']
    refine sr.sh.dom fun id o hid => ?_
    obtain ⟨u, a1, a2⟩ := sub id o hid
    refine ⟨⟨u, a1⟩, fun p1 hp1 => ?_⟩
    obtain ⟨p2, b1, b2⟩ := sr.sh.hr.obj id u a1
    rw [hp1] at b1
    cases b1
    exact relAO_ok hq a2 b2

/-! ### Back to the numbers that there were -/
/-- The same blocks, other numbers. -/
noncomputable def Env.ren (E : Env) (I : Nat → Int) : Env := ⟨I, E.blk, E.opq⟩

mutual
theorem SV.sub_den {σ : Nat → SI} {E : Env} {I : Nat → Int} (h : E.ints = fun i => (σ i).den I) : ∀ v : SV, (v.sub σ).den (E.ren I) = v.den E
  | .int k e => by
    simp only [SV.den, SV.sub]
    rw [SI.sub_den, h]; rfl
  | .func fn a b => by simp only [SV.den, SV.sub, subL_den h a, subL_den h b]
  | .iface t v => by simp only [SV.den, SV.sub, SV.sub_den h v]
  | .agg cs => by simp only [SV.den, SV.sub, subL_den h cs]
  | .tuple cs => by simp only [SV.den, SV.sub, subL_den h cs]
  | .ptr i o => rfl
  | .slice i o m c => rfl
  | .map i => rfl
  | .yld i => rfl
  | .bool b => rfl
  | .str s => rfl
  | .nilptr => rfl
  | .nilslice => rfl
  | .nilmap => rfl
  | .nilfunc => rfl
  | .nilIface => rfl
  | .opq i => rfl
  | .ostr i => rfl
  | .oslice i => rfl
  | .optr i k => rfl
theorem subL_den {σ : Nat → SI} {E : Env} {I : Nat → Int} (h : E.ints = fun i => (σ i).den I) : ∀ l : List SV, denL (E.ren I) (subL σ l) = denL E l
  | [] => rfl
  | v :: r => by simp only [denL, subL, SV.sub_den h v, subL_den h r]
end

theorem denE_sub {σ : Nat → SI} {E : Env} {I : Nat → Int} (h : E.ints = fun i => (σ i).den I) : ∀ {l : List (SV × SV)} {es : List MapEntry}, denE E l es → denE (E.ren I) (l.map fun p => (p.1.sub σ, p.2.sub σ)) es
  | [], es, h => h
  | (a, b) :: r, es, ⟨e, es', h1, h2, h3, h4⟩ => ⟨e, es', h1, by rw [SV.sub_den h a]; exact h2, by rw [SV.sub_den h b]; exact h3, denE_sub h h4⟩

noncomputable def plainAO : AO → Bool
  | .cells _ _ _ _ => true
  | .map _ => true
  | _ => false

theorem AO.sub_rel {σ : Nat → SI} {E : Env} {I : Nat → Int} (h : E.ints = fun i => (σ i).den I) {p : Nat × Nat} {hp : Array Obj} {o : AO} (hb : plainAO o = true) (k : o.rel E p hp) : (o.sub σ).rel (E.ren I) p hp := by
  cases o with
  | cells cs e s m =>
    obtain ⟨vs, rest, fz, a, b, c⟩ := k
    exact ⟨vs, rest, fz, by rw [subL_den h cs]; exact a, b, c⟩
  | map es =>
    obtain ⟨ents, clock, a, b⟩ := k
    exact ⟨ents, clock, a, denE_sub h b⟩
  | siter _ _ => cases hb
  | ro _ => cases hb
  | loop _ _ _ _ _ _ _ => cases hb

noncomputable def subOkT (σ : Nat → SI) (t : Tr SV) : List (Nat × SV) → Bool
  | [] => true
  | (k, v) :: r => match t.get k with
    | none => false
    | some u => match beqSV (u.sub σ) v with
      | false => false
      | true => subOkT σ t r

noncomputable def subOkH (σ : Nat → SI) (h : Tr AO) : List (Nat × AO) → Bool
  | [] => true
  | (k, o) :: r => match h.get k with
    | none => false
    | some u => match plainAO u with
      | false => false
      | true => match beqAO (u.sub σ) o with
        | false => false
        | true => subOkH σ h r

/-- A state, with numbers put in, as a pattern tells. -/
noncomputable def subOk (σ : Nat → SI) (s : St) (p : Pat) : Bool := match Nat.beq p.n s.n with
  | false => false
  | true => match subOkT σ s.t p.t with
    | false => false
    | true => subOkH σ s.h p.h

theorem subOkT_ok {σ : Nat → SI} {t : Tr SV} : ∀ {l : List (Nat × SV)}, subOkT σ t l = true → ∀ k v, (k, v) ∈ l → ∃ u, t.get k = some u ∧ u.sub σ = v
  | [], _, _, _, h => nomatch h
  | (j, x) :: r, h, k, v, hm => by
    simp only [subOkT] at h
    split at h
    · cases h
    rename_i u hu
    split at h
    · cases h
    rename_i hr
    rcases List.mem_cons.1 hm with e | hm
    · cases e; exact ⟨u, hu, beqSV_eq _ _ hr⟩
    · exact subOkT_ok h k v hm

theorem subOkH_ok {σ : Nat → SI} {t : Tr AO} : ∀ {l : List (Nat × AO)}, subOkH σ t l = true → ∀ k v, (k, v) ∈ l → ∃ u, t.get k = some u ∧ plainAO u = true ∧ u.sub σ = v
  | [], _, _, _, h => nomatch h
  | (j, x) :: r, h, k, v, hm => by
    simp only [subOkH] at h
    split at h
    · cases h
    rename_i u hu
    split at h
    · cases h
    rename_i hpl
    split at h
    · cases h
    rename_i hr
    rcases List.mem_cons.1 hm with e | hm
    · cases e; exact ⟨u, hu, hpl, beqAO_eq hr⟩
    · exact subOkH_ok h k v hm

/-- Back from a pattern's numbers. -/
theorem sub_sr {C C' : Cx} (hm : SameM C C') {d : List Deferred} {σ : Nat → SI} {p : Pat} {s s' : St} (hst : p.st = some s') (ho : subOk σ s p = true) {E : Env} {I : Nat → Int} (hE : E.ints = fun i => (σ i).den I) (hkn : FactsOk C'.facts I ∧ C'.K I E.opq) {sz : Nat} {a : Act} {w : World} (sr : SR C d E sz s a w) :
    SR C' d (E.ren I) sz s' a w ∧ (∀ id o, s'.h.get id = some o → ∃ u, s.h.get id = some u) ∧ s'.n = s.n := by
  obtain ⟨m1, m2, m3, m4⟩ := hm
  obtain ⟨e1, e2, e3⟩ := Pat.st_mem hst
  unfold subOk at ho
  split at ho
  · cases ho
  rename_i hn
  split at ho
  · cases ho
  rename_i h1
  have hT := subOkT_ok h1
  have hH := subOkH_ok ho
  have hn' : s'.n = s.n := by rw [e1, Nat.eq_of_beq_eq_true hn]
  have sub : ∀ id o, s'.h.get id = some o → ∃ u, s.h.get id = some u ∧ plainAO u = true ∧ u.sub σ = o := fun id o hid => hH id o (e3 id o hid)
  have base : SH C' (E.ren I) s.h.get s.n w.heap → True := fun _ => trivial
  refine ⟨⟨fun k v hk => ?_, sr.sz, sr.df, ⟨⟨fun id o hid => ?_, fun i j oi oj pi pj hi hj hbi hbj e => ?_⟩, by rw [hn']; exact sr.sh.fresh, by rw [m1]; exact sr.sh.glob, by rw [m2, hn']; exact sr.sh.low, ⟨hkn.1, hkn.2, by rw [m1, m2]; exact sr.sh.kn.2.2⟩, ⟨by rw [m3, m4]; exact sr.sh.anc.same, fun k hk hi => ?_, by rw [m3]; exact sr.sh.anc.size⟩⟩⟩, fun id o hid => let ⟨u, a1, _⟩ := sub id o hid; ⟨u, a1⟩, hn'⟩
  · obtain ⟨u, a1, a2⟩ := hT k v (e2 k v hk)
    obtain ⟨x, b1, b2⟩ := sr.tm k u a1
    exact ⟨x, b1, by rw [← a2, SV.sub_den hE]; exact b2⟩
  · obtain ⟨u, a1, a2, a3⟩ := sub id o hid
    obtain ⟨p1, b1, b2⟩ := sr.sh.hr.obj id u a1
    exact ⟨p1, b1, by rw [← a3]; exact AO.sub_rel hE a2 b2⟩
  · obtain ⟨u, a1, _⟩ := sub i oi hi
    obtain ⟨u', a1', _⟩ := sub j oj hj
    exact sr.sh.hr.inj i j u u' pi pj a1 a1' hbi hbj e
  · rw [m3] at hk
    rw [m2] at hi
    obtain ⟨id, o, p1, h1, h2, h3, h4⟩ := hi
    obtain ⟨u, a1, _⟩ := sub id o h2
    exact sr.sh.anc.off k hk ⟨id, u, p1, h1, a1, h3, h4⟩

/-- From a state to one that fits a pattern, and on from there, with the numbers that there were. -/
theorem re_post {C C1 C2 : Cx} (hm : C1.G = C.G) (hm2 : C2.G = C.G) {E E' E6 : Env} {J : Nat → Int} {n n4 n' : Nat} {hs h h4 h' h'' : Nat → Option AO} {w w' w'' : World} (hsub : ∀ id o, h id = some o → (∃ o', hs id = some o') ∧ id < n) (hfresh : ∀ id, n ≤ id → E.blk id = none)
    (hp : Post C1 E hs n w E' h4 n4 w') (hp2 : Post C2 (E'.re J n) h n w' E6 h' n' w'') (dom : ∀ id o, h'' id = some o → ∃ u, h' id = some u) (sh : SH C (E6.ren E.ints) h'' n' w''.heap) : Post C E hs n w (E6.ren E.ints) h'' n' w'' := by
  have blk : ∀ id, id < n → E6.blk id = E.blk id := fun id hid => by
    rw [hp2.old id hid]
    show (E'.re J n).blk id = _
    rw [Env.re_blk hid, hp.old id hid]
  have img : ∀ k, Img C.G (E'.re J n) h k → Img C.G E hs k := by
    rintro k ⟨id, o, q, hG, hid, hq, e⟩
    obtain ⟨⟨o', ho'⟩, hlt⟩ := hsub id o hid
    rw [Env.re_blk hlt, hp.old id hlt] at hq
    exact ⟨id, o', q, hG, ho', hq, e⟩
  refine ⟨sh, ⟨⟨rfl, fun i q hq => ?_, ?_⟩, hp2.fr.os.trans hp.fr.os, hp2.fr.tape.trans hp.fr.tape, hp2.fr.output.trans hp.fr.output, Nat.le_trans hp.fr.size hp2.fr.size, fun k hk hni => ?_, fun k hk hi => ?_⟩, hp2.mono, fun id o hid => ?_, fun id hid => blk id hid⟩
  · show E6.blk i = some q
    rcases Nat.lt_or_ge i n with h1 | h1
    · rw [blk i h1]; exact hq
    · rw [hfresh i h1] at hq; cases hq
  · show E6.opq = E.opq
    rw [hp2.fr.le.opq]
    exact hp.fr.le.opq
  · rw [hp2.fr.same k (Nat.lt_of_lt_of_le hk hp.fr.size) (fun hi => hni (img k (by rw [hm2] at hi; exact hi)))]
    exact hp.fr.same k hk (by rw [hm]; exact hni)
  · obtain ⟨id, o, q, hG, hid, hq, e⟩ := hi
    obtain ⟨u, hu⟩ := dom id o hid
    have := hp2.fr.img k (Nat.lt_of_lt_of_le hk hp.fr.size) ⟨id, u, q, by rw [hm2]; exact hG, hu, hq, e⟩
    rw [hm2] at this
    exact img k this
  · obtain ⟨u, hu⟩ := dom id o hid
    rcases hp2.new id u hu with ⟨o0, h0⟩ | h0
    · exact Or.inl (hsub id o0 h0).1
    · exact Or.inr h0

/-! ### Rounds -/
noncomputable def exR (ex : EX) (sz : Nat) (b : Code) : Nat → St → Option St
  | 0, s => some s
  | q + 1, s => match ex sz b s with
    | some (.normal, s') => exR ex sz b q s'
    | _ => none

theorem exR_ok {P : Program} {C : Cx} {ex : EX} (hex : ExOk P C ex) {sz : Nat} {b : Code} {ro : Option Nat} {Q : Exit → Act → World → Prop} {N0 : Nat} : ∀ {q : Nat} {s s' : St}, exR ex sz b q s = some s' → ∀ {d : List Deferred} {E : Env} {a : Act} {w : World}, RoOk ro E s.h w → SR C d E sz s a w →
    (∀ E' ms a' w', SR C (ms.map markD ++ d) E' sz s' a' w' → Post C E s.h s.n w E' s'.h s'.n w' → MkOk E' s'.h w.heap.size w' ms → RoOk ro E' s'.h w' → Code.roundsIn (Fw ro) 0 P b Q N0 a' w') → Code.roundsIn (Fw ro) 0 P b Q (N0 + q) a w
  | 0, s, s', h, d, E, a, w, hro, sr, hk => by
    simp only [exR, Option.some.injEq] at h
    subst h
    exact hk E [] a w sr (Post.refl sr.sh) MkOk.nil hro
  | q + 1, s, s', h, d, E, a, w, hro, sr, hk => by
    simp only [exR] at h
    split at h
    case h_2 => cases h
    rename_i s1 hx
    rw [show N0 + (q + 1) = (N0 + q) + 1 by omega, roundsIn_succ]
    refine hex _ _ _ _ hx ro d E a w _ hro sr ?_
    rintro e' a1 w1 ⟨E1, ms1, he, hsr, hp, hmk⟩
    simp only [Ex.is] at he
    subst he
    have hro1 := hro.step sr.sh hp
    show Code.roundsIn (Fw ro) 0 P b Q (N0 + q) a1 w1
    refine exR_ok hex h hro1 hsr (fun E' ms a' w' k1 k2 k3 k4 => ?_)
    have hj := (hmk.step hsr.sh k2).join k3 (fun r hr => lt_of_at (hmk.at_ r hr)) hp.fr.size
    refine hk E' (ms ++ ms1) a' w' ?_ (hp.trans k2) hj k4
    rw [List.map_append, List.append_assoc]
    exact k1

theorem SR.recx {C C0 : Cx} (he : SameM C C0) {d : List Deferred} {E : Env} (hkn : FactsOk C0.facts E.ints ∧ C0.K E.ints E.opq) {sz : Nat} {s : St} {a : Act} {w : World} (sr : SR C d E sz s a w) : SR C0 d E sz s a w :=
  ⟨sr.tm, sr.sz, sr.df, sr.sh.recx he hkn⟩

/-- What is known of a loop: where it begins, a state told by named numbers; where it goes on, one that fits with others; where it ends. -/
structure Lp where
  sz : Nat
  pat : Pat
  out : Pat
  ex : Ex
  rounds : Nat
  fuel : Nat
  sub : Nat → SI
  eqs : List (SI × SI)

/-- How code ends, but by a panic. -/
noncomputable def exOk : Ex → Bool
  | .panic _ => false
  | _ => true

theorem exOk_is {r : Ex} {E E' : Env} {e : Exit} (h : exOk r = true) (k : r.is E e) : r.is E' e := by
  cases r with
  | panic v => cases h
  | _ => exact k

noncomputable def sameEx : Ex → Ex → Bool
  | .normal, .normal => true
  | .ret, .ret => true
  | .exit i, .exit j => Nat.beq i j
  | _, _ => false

theorem sameEx_ok {a b : Ex} (h : sameEx a b = true) : a = b ∧ exOk a = true := by
  cases a <;> cases b <;> simp only [sameEx] at h <;> try (cases h; done)
  · exact ⟨rfl, rfl⟩
  · exact ⟨by rw [Nat.eq_of_beq_eq_true h], rfl⟩
  · exact ⟨rfl, rfl⟩

/-- A loop goes on. -/
noncomputable def Lp.goes (l : Lp) (ex : EX) (b : Code) : Bool := match l.pat.st with
  | none => false
  | some s => match exR ex l.sz b l.rounds s with
    | none => false
    | some s4 => fit l.sub l.pat s4

/-- A loop ends. -/
noncomputable def Lp.ends (l : Lp) (ex : EX) (b : Code) : Bool := match l.pat.st with
  | none => false
  | some s => match ex l.sz (.loop b) s with
    | none => false
    | some (e, s5) => match sameEx e l.ex with
      | false => false
      | true => isOut l.eqs l.out s5

/-- What a loop does, said as a run. -/
noncomputable def LoopIs (P : Program) (C : Cx) (l : Lp) (b : Code) (Φ : (Nat → Int) → (Nat → Value) → Nat → Prop) : Prop :=
  ∃ sp sq, l.pat.st = some sp ∧ l.out.st = some sq ∧ exOk l.ex = true ∧ ∀ m, ∃ N, ∀ (ro : Option Nat) (d : List Deferred) (E : Env) (a : Act) (w : World) (Q : Exit → Act → World → Prop), Φ E.ints E.opq m → RoOk ro E sp.h w → SR C d E l.sz sp a w →
    (∀ e a' w', PQ C d E l.sz sp w (l.ex, sq) e a' w' → Q e a' w') → Code.roundsIn (Fw ro) 0 P b Q N a w

theorem fit_dom {σ : Nat → SI} {p : Pat} {s s' : St} (hst : p.st = some s') (hf : fit σ p s = true) : p.n ≤ s.n ∧ s'.n = p.n ∧ ∀ id o, s'.h.get id = some o → (∃ o', s.h.get id = some o') ∧ id < p.n := by
  obtain ⟨e1, e2, e3⟩ := Pat.st_mem hst
  unfold fit at hf
  split at hf
  · cases hf
  rename_i hn
  split at hf
  · cases hf
  refine ⟨Nat.le_of_ble_eq_true hn, e1, fun id o hid => ?_⟩
  obtain ⟨a, b, c⟩ := fitH_ok hf id o (e3 id o hid)
  exact ⟨⟨_, a⟩, c⟩

theorem loop_is {P : Program} {C Cg Ce : Cx} (hg : Cg.Ok P) (he : Ce.Ok P) (mg : SameM C Cg) (me : SameM C Ce) {l : Lp} {b : Code} {Φ : (Nat → Int) → (Nat → Value) → Nat → Prop} (hb : ∀ I O, FactsOk C.facts I ∧ C.K I O)
    (hgo : l.goes (codeX Cg l.fuel) b = true) (hend : l.ends (codeX Ce l.fuel) b = true) {sq : St} (hsq : l.out.st = some sq) (hinv : subOk l.sub sq l.out = true)
    (f1 : ∀ I O m, Φ I O (m + 1) → FactsOk Cg.facts I ∧ Cg.K I O) (f2 : ∀ I O m, Φ I O (m + 1) → Φ (fun i => (l.sub i).den I) O m)
    (f3 : ∀ I O, Φ I O 0 → (FactsOk Ce.facts I ∧ Ce.K I O) ∧ ∀ a b, (a, b) ∈ l.eqs → a.den I = b.den I) : LoopIs P C l b Φ := by
  unfold Lp.goes at hgo
  split at hgo
  · cases hgo
  rename_i sp hsp
  split at hgo
  · cases hgo
  rename_i s4 hR
  unfold Lp.ends at hend
  rw [hsp] at hend
  simp only at hend
  split at hend
  · cases hend
  rename_i e s5 hL
  split at hend
  · cases hend
  rename_i hse
  obtain ⟨rfl, hok⟩ := sameEx_ok hse
  obtain ⟨dn, dn2, dh⟩ := fit_dom hsp hgo
  have mg' : SameM Cg C := ⟨mg.1.symm, mg.2.1.symm, mg.2.2.1.symm, mg.2.2.2.symm⟩
  have me' : SameM Ce C := ⟨me.1.symm, me.2.1.symm, me.2.2.1.symm, me.2.2.2.symm⟩
  refine ⟨sp, sq, hsp, hsq, hok, fun m => ?_⟩
  induction m with
  | zero =>
    obtain ⟨N, hN⟩ := (code_ok he l.fuel).2 _ _ _ _ hL
    refine ⟨N, fun ro d E a w Q hΦ hro sr hQ => ?_⟩
    obtain ⟨k1, k2⟩ := f3 _ _ hΦ
    refine hN ro d E a w Q hro (sr.recx me k1) ?_
    rintro e' a' w' ⟨E', ms, g1, g2, g3, g4⟩
    obtain ⟨o1, o2, o3⟩ := out_sr hsq hend (fun a b h => by rw [g3.fr.le.ints]; exact k2 a b h) g2
    have o4 := o1.recx me' (hb _ _)
    refine hQ e' a' w' ⟨E', ms, g1, o4, ?_, g4.dom o2⟩
    have hp := Post.recx (C0 := C) me' (hb _ _) g3
    rw [← o3] at hp
    exact hp.dom o4.sh o2
  | succ m ih =>
    obtain ⟨N, hN⟩ := ih
    refine ⟨N + l.rounds, fun ro d E a w Q hΦ hro sr hQ => ?_⟩
    refine exR_ok (code_ok hg l.fuel).1 hR hro (sr.recx mg (f1 _ _ _ hΦ)) (fun E' ms a' w' k1 k2 k3 k4 => ?_)
    have hints : E'.ints = E.ints := k2.fr.le.ints
    have hG : Cg.G ≤ l.pat.n := by rw [← dn2, mg.2.1]; exact sr.sh.low
    have sr4 := fit_sr mg' hsp hgo k1 hG (hb _ _)
    have hro4 : RoOk ro (E'.re (fun i => (l.sub i).den E'.ints) l.pat.n) sp.h w' := fun r hr => by
      obtain ⟨q1, q2⟩ := k4 r hr
      refine ⟨fun id o q hid hq => ?_, q2⟩
      obtain ⟨⟨o', ho'⟩, hlt⟩ := dh id o hid
      rw [Env.re_blk hlt] at hq
      exact q1 id o' q ho' hq
    have hmk4 : MkOk (E'.re (fun i => (l.sub i).den E'.ints) l.pat.n) sp.h w.heap.size w' ms := ⟨k3.nd, k3.lo, k3.at_, fun r hr id o q hid hq => by
      obtain ⟨⟨o', ho'⟩, hlt⟩ := dh id o hid
      rw [Env.re_blk hlt] at hq
      exact k3.off r hr id o' q ho' hq⟩
    refine hN ro _ _ a' w' Q (by rw [← k2.fr.le.opq] at hΦ; rw [← hints] at hΦ; exact f2 _ _ _ hΦ) hro4 sr4 ?_
    rintro e' a'' w'' ⟨E6, ms6, g1, g2, g3, g4⟩
    have h6 : E6.ints = fun i => (l.sub i).den E.ints := by rw [g3.fr.le.ints]; show (fun i => (l.sub i).den E'.ints) = _; rw [hints]
    obtain ⟨o1, o2, o3⟩ := sub_sr (C := C) (C' := C) ⟨rfl, rfl, rfl, rfl⟩ hsq hinv (I := E.ints) h6 (hb _ _) g2
    refine hQ e' a'' w'' ⟨E6.ren E.ints, ms6 ++ ms, exOk_is hok g1, by rw [List.map_append, List.append_assoc]; exact o1, ?_, ?_⟩
    · have hdom : ∀ id o, sp.h.get id = some o → (∃ o', sp.h.get id = some o') ∧ id < sp.n := fun id o hid => ⟨⟨o, hid⟩, by rw [dn2]; exact (dh id o hid).2⟩
      rw [← dn2] at g3
      have hsh := o1.sh
      rw [o3] at hsh
      exact re_post mg.2.1 rfl hdom sr.sh.fresh k2 g3 (fun id o h => ⟨o, h⟩) hsh
    · have h9 := (hmk4.step sr4.sh g3).join g4 (fun r hr => lt_of_at (k3.at_ r hr)) k2.fr.size
      exact ⟨h9.nd, h9.lo, h9.at_, h9.off⟩

/-! ### The way to a loop in a body, and from there to its end -/
noncomputable def toL (C : Cx) (ex : EX) (sz : Nat) : List Bool → Code → St → Option (Code × St)
  | [], .loop b, s => some (b, s)
  | d :: ds, .seq x y, s => match d with
    | true => (match ex sz x s with
      | some (.normal, s') => toL C ex sz ds y s'
      | _ => none)
    | false => toL C ex sz ds x s
  | _ :: ds, .block _ b, s => toL C ex sz ds b s
  | _ :: ds, .scope b, s => toL C ex sz ds b s
  | d :: ds, .cond x a b, s => match getX C.g0 s.t x with
    | some (.bool true) => (match d with | true => toL C ex sz ds a s | false => none)
    | some (.bool false) => (match d with | false => toL C ex sz ds b s | true => none)
    | _ => none
  | _, _, _ => none

noncomputable def fromL (ex : EX) (sz : Nat) : List Bool → Code → Ex × St → Option (Ex × St)
  | [], .loop _, r => some r
  | d :: ds, .seq x y, r => match d with
    | true => fromL ex sz ds y r
    | false => (match fromL ex sz ds x r with
      | none => none
      | some (e, s') => match e with
        | .normal => ex sz y s'
        | e => some (e, s'))
  | _ :: ds, .block id b, r => match fromL ex sz ds b r with
    | none => none
    | some (e, s') => match e with
      | .exit i => (match Nat.beq i id with
        | true => some (.normal, s')
        | false => some (.exit i, s'))
      | e => some (e, s')
  | _ :: ds, .scope b, r => fromL ex sz ds b r
  | d :: ds, .cond _ a b, r => match d with
    | true => fromL ex sz ds a r
    | false => fromL ex sz ds b r
  | _, _, _ => none

/-- Code that runs so. -/
noncomputable def RunsIs (P : Program) (C : Cx) (sz : Nat) (c : Code) (s : St) (r : Ex × St) : Prop :=
  ∀ (ro : Option Nat) (d : List Deferred) (E : Env) (a : Act) (w : World) (Q : Exit → Act → World → Prop), RoOk ro E s.h w → SR C d E sz s a w → (∀ e a' w', PQ C d E sz s w r e a' w' → Q e a' w') → c.wpIn (Fw ro) 0 P Q a w

theorem fromL_ok {P : Program} {C : Cx} {ex : EX} (hex : ExOk P C ex) {sz : Nat} {b : Code} {s1 : St} {r : Ex × St} (hb : RunsIs P C sz (.loop b) s1 r) : ∀ {ds : List Bool} {c : Code} {s : St} {r' : Ex × St}, toL C ex sz ds c s = some (b, s1) → fromL ex sz ds c r = some r' → RunsIs P C sz c s r'
  | [], c, s, r', h1, h2 => by
    cases c <;> simp only [toL] at h1 <;> try (cases h1; done)
    simp only [fromL] at h2
    cases h1; cases h2
    exact hb
  | d :: ds, c, s, r', h1, h2 => by
    intro ro df E a w Q hro sr hQ
    cases c with
    | seq x y =>
      simp only [toL] at h1
      simp only [fromL] at h2
      cases d with
      | true =>
        simp only at h1 h2
        split at h1
        case h_2 => cases h1
        rename_i s' hx
        refine wpIn_seq (hex _ _ _ _ hx ro df E a w _ hro sr ?_)
        rintro e' a' w' ⟨E', ms, he, hsr, hp, hm⟩
        simp only [Ex.is] at he
        subst he
        exact fromL_ok hex hb h1 h2 ro _ E' a' w' Q (hro.step sr.sh hp) hsr (fun e'' a'' w'' h => hQ e'' a'' w'' (h.from hp hm))
      | false =>
        simp only at h1 h2
        split at h2
        · cases h2
        rename_i e s' hf
        have ih := fromL_ok hex hb h1 hf
        split at h2
        · refine wpIn_seq (ih ro df E a w _ hro sr ?_)
          rintro e' a' w' ⟨E', ms, he, hsr, hp, hm⟩
          simp only [Ex.is] at he
          subst he
          exact hex _ _ _ _ h2 ro _ E' a' w' Q (hro.step sr.sh hp) hsr (fun e'' a'' w'' h => hQ e'' a'' w'' (h.from hp hm))
        · rename_i hne
          cases h2
          refine wpIn_seq (ih ro df E a w _ hro sr ?_)
          intro e' a' w' h
          exact exThen (fun h => hne h) h (hQ e' a' w' h)
    | block id x =>
      simp only [toL] at h1
      simp only [fromL] at h2
      split at h2
      · cases h2
      rename_i e s' hf
      have ih := fromL_ok hex hb h1 hf
      refine wpIn_block (ih ro df E a w _ hro sr ?_)
      rintro e' a' w' ⟨E', ms, he, hsr, hp, hm⟩
      split at h2
      · rename_i i
        simp only [Ex.is] at he
        subst he
        simp only [Exit.inBlock]
        split at h2
        · rename_i hb
          cases h2
          rw [if_pos (Nat.eq_of_beq_eq_true hb)]
          exact hQ _ _ _ ⟨E', ms, rfl, hsr, hp, hm⟩
        · rename_i hb
          cases h2
          rw [if_neg (Nat.ne_of_beq_eq_false hb)]
          exact hQ _ _ _ ⟨E', ms, rfl, hsr, hp, hm⟩
      · rename_i hne
        cases h2
        have hq := hQ e' a' w' ⟨E', ms, he, hsr, hp, hm⟩
        cases e with
        | normal => simp only [Ex.is] at he; subst he; exact hq
        | exit id => exact absurd rfl (hne id)
        | ret => simp only [Ex.is] at he; subst he; exact hq
        | panic v => obtain ⟨x, _, rfl⟩ := he; exact hq
    | scope x =>
      simp only [toL] at h1
      simp only [fromL] at h2
      have ih := fromL_ok hex hb h1 h2
      refine wpIn_scope_straight (ih ro df E a w _ hro sr ?_)
      rintro e' a' w' ⟨E', ms, he, hsr, hp, hm⟩
      have hq := hQ e' a' w' ⟨E', ms, he, hsr, hp, hm⟩
      obtain ⟨e, s1⟩ := r'
      cases e with
      | normal => simp only [Ex.is] at he; subst he; exact hq
      | exit id => simp only [Ex.is] at he; subst he; exact hq
      | ret => simp only [Ex.is] at he; subst he; exact hq
      | panic v => obtain ⟨x, _, rfl⟩ := he; exact hq
    | cond x y z =>
      simp only [toL] at h1
      simp only [fromL] at h2
      split at h1
      · rename_i hv
        have hd := sr.getX hv
        simp only [SV.den, Option.some.injEq] at hd
        cases d with
        | true => exact wpIn_cond (t := true) hd.symm (fromL_ok hex hb h1 h2 ro df E a w Q hro sr hQ)
        | false => cases h1
      · rename_i hv
        have hd := sr.getX hv
        simp only [SV.den, Option.some.injEq] at hd
        cases d with
        | true => cases h1
        | false => exact wpIn_cond (t := false) hd.symm (fromL_ok hex hb h1 h2 ro df E a w Q hro sr hQ)
      · cases h1
    | _ => simp only [toL] at h1; cases h1

/-- A loop that is come to, and some rounds later: numbers are put in. -/
theorem LoopIs.enter {P : Program} {C Cm : Cx} (mm : SameM C Cm) {l : Lp} {b : Code} {Φ : (Nat → Int) → (Nat → Value) → Nat → Prop} (h : LoopIs P C l b Φ) (hb : ∀ I O, FactsOk C.facts I ∧ C.K I O) {ex : EX} (hex : ExOk P Cm ex) {q0 : Nat} {s0 s1 : St} (hR : exR ex l.sz b q0 s0 = some s1) {σ : Nat → SI} (hf : fit σ l.pat s1 = true) (hn : Nat.beq l.pat.n s1.n = true) {sq : St} (hsq : l.out.st = some sq) {fin : Pat} (hs : subOk σ sq fin = true) {sf : St} (hfin : fin.st = some sf)
    (hΦ : ∀ I O, FactsOk Cm.facts I → Cm.K I O → ∃ m, Φ (fun i => (σ i).den I) O m) : RunsIs P Cm l.sz (.loop b) s0 (l.ex, sf) := by
  obtain ⟨sp, sq', hsp, hsq', hok, hN⟩ := h
  rw [hsq] at hsq'
  cases hsq'
  obtain ⟨dn, dn2, dh⟩ := fit_dom hsp hf
  have hn' := Nat.eq_of_beq_eq_true hn
  have mm' : SameM Cm C := ⟨mm.1.symm, mm.2.1.symm, mm.2.2.1.symm, mm.2.2.2.symm⟩
  intro ro d E0 a0 w0 Q hro0 sr0 hQ0
  obtain ⟨m, hm⟩ := hΦ E0.ints E0.opq sr0.sh.kn.1 sr0.sh.kn.2.1
  obtain ⟨N, hN⟩ := hN m
  refine wpIn_loop_rounds (N + q0) (exR_ok hex hR hro0 sr0 (fun E ms0 a w sr kp km hro => ?_))
  have hm : Φ (fun i => (σ i).den E.ints) E.opq m := by rw [kp.fr.le.ints, kp.fr.le.opq]; exact hm
  have hQ : ∀ e a' w', PQ Cm (ms0.map markD ++ d) E l.sz s1 w (l.ex, sf) e a' w' → Q e a' w' := fun e a' w' hq => hQ0 e a' w' (hq.from kp km)
  have hG : Cm.G ≤ l.pat.n := by rw [hn']; exact sr.sh.low
  have sr4 := fit_sr mm' hsp hf sr hG (hb _ _)
  have hro4 : RoOk ro (E.re (fun i => (σ i).den E.ints) l.pat.n) sp.h w := fun r hr => by
    obtain ⟨q1, q2⟩ := hro r hr
    refine ⟨fun id o q hid hq => ?_, q2⟩
    obtain ⟨⟨o', ho'⟩, hlt⟩ := dh id o hid
    rw [Env.re_blk hlt] at hq
    exact q1 id o' q ho' hq
  refine hN ro _ _ a w Q hm hro4 sr4 ?_
  rintro e' a'' w'' ⟨E6, ms6, g1, g2, g3, g4⟩
  have h6 : E6.ints = fun i => (σ i).den E.ints := g3.fr.le.ints
  have ho6 : E6.opq = E.opq := g3.fr.le.opq
  obtain ⟨o1, o2, o3⟩ := sub_sr (C := C) (C' := Cm) mm hfin hs (I := E.ints) h6 (by rw [ho6]; exact ⟨sr.sh.kn.1, sr.sh.kn.2.1⟩) g2
  refine hQ e' a'' w'' ⟨E6.ren E.ints, ms6, exOk_is hok g1, o1, ?_, ?_⟩
  · have hsh := o1.sh
    rw [o3] at hsh
    rw [dn2, hn'] at g3
    have hp := re_post (C := Cm) (C1 := Cm) (C2 := C) rfl mm'.2.1 (hs := s1.h.get) (h := sp.h.get) (n := s1.n) (fun id o hid => by have := dh id o hid; rw [hn'] at this; exact this) sr.sh.fresh (Post.refl sr.sh) g3 o2 hsh
    rw [← o3] at hp
    exact hp
  · have := g4.dom o2
    exact ⟨this.nd, this.lo, this.at_, this.off⟩

/-- What is computed of a call in whose body a loop stands. -/
noncomputable def loopRunN (C Cg Ce : Cx) (l : Lp) (σ : Nat → SI) (fin : Pat) (ds : List Bool) (q0 : Nat) (p : Part) : Bool := match addH p.old .nil with
  | none => false
  | some hs => match hookX C.hooks p.f p.args with
    | some _ => false
    | none => match partX C.parts p.f p.args p.n with
      | some _ => false
      | none => match C.ft.get p.f with
        | none => false
        | some fn => match fn.body with
          | none => false
          | some c => match argsT p.args 0 .nil with
            | none => false
            | some t => match memN C.dfs p.f with
              | true => false
              | false => match Nat.beq l.sz (Nat.add p.args.length (Nat.sub fn.ntmps p.args.length)) with
                | false => false
                | true => match toL C (codeF C l.fuel) l.sz ds c ⟨t, hs, p.n⟩ with
                  | none => false
                  | some (b, s0) => match exR (codeF C l.fuel) l.sz b q0 s0 with
                   | none => false
                   | some s1 => match fit σ l.pat s1 with
                    | false => false
                    | true => match Nat.beq l.pat.n s1.n with
                      | false => false
                      | true => match l.goes (codeF Cg l.fuel) b with
                        | false => false
                        | true => match l.ends (codeF Ce l.fuel) b with
                          | false => false
                          | true => match l.out.st with
                            | none => false
                            | some sq => match subOk l.sub sq l.out with
                              | false => false
                              | true => match subOk σ sq fin with
                                | false => false
                                | true => match fin.st with
                                  | none => false
                                  | some sf => match fromL (codeF C l.fuel) l.sz ds c (l.ex, sf) with
                                    | none => false
                                    | some (e, s7) => match exOk e with
                                      | false => false
                                      | true => match e with
                                        | .exit _ => false
                                        | _ => match resX C s7.t s7.h fn.results.toList with
                                          | none => false
                                          | some lv => partIs p (some (oneX lv, s7.h, s7.n))

open Classical in
/-- One run that is known. -/
noncomputable def oneRun (sz : Nat) (c : Code) (s : St) (r : Ex × St) : EX := fun sz' c' s' => if sz' = sz ∧ c' = c ∧ s' = s then some r else none

theorem oneRun_ok {P : Program} {C : Cx} {sz : Nat} {c : Code} {s : St} {r : Ex × St} (h : RunsIs P C sz c s r) : ExOk P C (oneRun sz c s r) := by
  intro sz' c' s' r' hx
  unfold oneRun at hx
  split at hx
  · rename_i he
    obtain ⟨rfl, rfl, rfl⟩ := he
    cases hx
    exact h
  · cases hx

theorem oneRun_eq {sz : Nat} {c : Code} {s : St} {r : Ex × St} : oneRun sz c s r sz c s = some r := by
  unfold oneRun
  rw [if_pos ⟨rfl, rfl, rfl⟩]

theorem loop_part {P : Program} {C0 C Cg Ce : Cx} (hC : C.Ok P) (hg : Cg.Ok P) (he : Ce.Ok P) (hb : ∀ I O, FactsOk C0.facts I ∧ C0.K I O) (m0 : SameM C0 C) (mg : SameM C0 Cg) (me : SameM C0 Ce) {l : Lp} {σ : Nat → SI} {fin : Pat} {ds : List Bool} {q0 : Nat} {p : Part} (hrun : loopRunN C Cg Ce l σ fin ds q0 p = true) {Φ : (Nat → Int) → (Nat → Value) → Nat → Prop}
    (f1 : ∀ I O m, Φ I O (m + 1) → FactsOk Cg.facts I ∧ Cg.K I O) (f2 : ∀ I O m, Φ I O (m + 1) → Φ (fun i => (l.sub i).den I) O m)
    (f3 : ∀ I O, Φ I O 0 → (FactsOk Ce.facts I ∧ Ce.K I O) ∧ ∀ a b, (a, b) ∈ l.eqs → a.den I = b.den I)
    (hΦ : ∀ I O, FactsOk C.facts I → C.K I O → ∃ m, Φ (fun i => (σ i).den I) O m)
    {C' : Cx} (hc : C'.g0 = C.g0 ∧ C'.G = C.G ∧ C'.base = C.base ∧ C'.heap0 = C.heap0) (hkn : ∀ I Q, FactsOk C'.facts I → C'.K I Q → FactsOk C.facts I ∧ C.K I Q) : PartOk P C' p := by
  unfold loopRunN at hrun
  split at hrun
  · cases hrun
  rename_i hs e1
  split at hrun
  · cases hrun
  rename_i q1
  split at hrun
  · cases hrun
  rename_i q2
  split at hrun
  · cases hrun
  rename_i fn q3
  split at hrun
  · cases hrun
  rename_i c q4
  split at hrun
  · cases hrun
  rename_i t q5
  split at hrun
  · cases hrun
  rename_i q6
  split at hrun
  · cases hrun
  rename_i q7
  split at hrun
  · cases hrun
  rename_i b s0 q8
  split at hrun
  · cases hrun
  rename_i s1 q80
  split at hrun
  · cases hrun
  rename_i q9
  split at hrun
  · cases hrun
  rename_i q10
  split at hrun
  · cases hrun
  rename_i q11
  split at hrun
  · cases hrun
  rename_i q12
  split at hrun
  · cases hrun
  rename_i sq q13
  split at hrun
  · cases hrun
  rename_i q14
  split at hrun
  · cases hrun
  rename_i q15
  split at hrun
  · cases hrun
  rename_i sf q16
  split at hrun
  · cases hrun
  rename_i e s7 q17
  split at hrun
  · cases hrun
  rename_i q18
  rw [codeF_eq] at q8 q80 q11 q12 q17
  have hL := (loop_is (C := C0) hg he mg me hb q11 q12 q13 q14 f1 f2 f3).enter m0 hb (code_ok hC l.fuel).1 q80 q9 q10 q13 q15 q16 hΦ
  have hR := fromL_ok (code_ok hC l.fuel).1 hL q8 q17
  have hsz := Nat.eq_of_beq_eq_true q7
  have key : ∀ lv, resX C s7.t s7.h fn.results.toList = some lv → (∀ i, e ≠ .exit i) → partIs p (some (oneX lv, s7.h, s7.n)) = true → PartOk P C' p := by
    intro lv hlv hne hpi
    have hx : callX C (oneRun l.sz c ⟨t, hs, p.n⟩ (e, s7)) p.f p.args hs p.n = some (oneX lv, s7.h, s7.n) := by
      unfold callX callR
      simp only [q1, q2, q3, q4, q5, q6]
      rw [← hsz, oneRun_eq]
      cases e with
      | exit i => exact absurd rfl (hne i)
      | panic v => cases q18
      | normal => simp only [hlv]
      | ret => simp only [hlv]
    unfold partIs at hpi
    simp only at hpi
    split at hpi
    · cases hpi
    rename_i hv
    split at hpi
    · cases hpi
    rename_i hn
    split at hpi
    · cases hpi
    rename_i hnew
    split at hpi
    · cases hpi
    rename_i hs' e2
    have hv' := beqSV_eq _ _ hv
    have hn' := Nat.eq_of_beq_eq_true hn
    refine ⟨hs, hs', e1, e2, fun E w xs s ha R hR' => ?_⟩
    have he' : C.g0 = C'.g0 ∧ C.G = C'.G ∧ C.base = C'.base ∧ C.heap0 = C'.heap0 := ⟨hc.1.symm, hc.2.1.symm, hc.2.2.1.symm, hc.2.2.2.symm⟩
    have k := s.kn
    refine callX_ok hC (oneRun_ok hR) hx (s.recx he' (hkn _ _ k.1 k.2.1)) ha (fun E' x w' hd hp => hR' E' x w' (by rw [← hv']; exact hd) ?_)
    have := (hp.recx hc ⟨k.1, k.2.1⟩).sub (subH_ok hnew e2 (fun id o k => by rw [Tr.get_nil] at k; cases k))
    rw [hn'] at this
    exact this
  split at hrun
  · cases hrun
  · rename_i hne
    split at hrun
    · cases hrun
    rename_i lv q20
    exact key lv q20 (fun i h => hne i h) hrun
end Go.Xq
