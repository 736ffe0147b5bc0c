/-
  Values of a program as plain data: steps of memory: a new object, one changed; a new list, one appended to.
-/
import Derived.Test.YteapohlamngkpaaDoorPb
namespace Go.Pv
open Go.RowKit
set_option linter.unusedVariables false

def hset {α : Type} (H : Nat → Option α) (i : Nat) (o : Option α) : Nat → Option α := fun j => if j = i then o else H j
theorem hset_same {α : Type} (H : Nat → Option α) (i : Nat) (o : Option α) : hset H i o i = o := by simp [hset]
theorem hset_ne {α : Type} (H : Nat → Option α) {i j : Nat} (o : Option α) (h : j ≠ i) : hset H i o j = H j := by simp [hset, h]

def Env.setB (E : Env) (id b : Nat) : Env := { E with blk := fun i => if i = id then some b else E.blk i }
def Env.setF (E : Env) (k : Nat) (f : Nat → Option Value) : Env := { E with fz := fun b o => if b = k then f o else E.fz b o }
def Env.setT (E : Env) (p l : Nat) (x : Nat × Nat × Nat × Nat) : Env := { E with tip := fun q i => if q = p ∧ i = l then some x else E.tip q i }

theorem Env.setB_le {E : Env} {id b : Nat} (h : E.blk id = none) : E.le (E.setB id b) :=
  ⟨fun i c hc => by
    show (if i = id then some b else E.blk i) = some c
    rw [if_neg (by intro e; subst e; rw [h] at hc; cases hc)]; exact hc, fun _ _ _ k => k, fun _ _ _ k => k⟩
theorem Env.setF_le {E : Env} {k : Nat} {f : Nat → Option Value} (h : ∀ o x, E.fz k o = some x → f o = some x) : E.le (E.setF k f) :=
  ⟨fun _ _ k => k, fun b o x hx => by
    show (if b = k then f o else E.fz b o) = some x
    by_cases e : b = k
    · subst e; rw [if_pos rfl]; exact h o x hx
    · rw [if_neg e]; exact hx, fun _ _ _ k => k⟩
theorem Env.setT_le {E : Env} {p l : Nat} {x : Nat × Nat × Nat × Nat} (h : E.tip p l = none) : E.le (E.setT p l x) :=
  ⟨fun _ _ k => k, fun _ _ _ k => k, fun q i y hy => by
    show (if q = p ∧ i = l then some x else E.tip q i) = some y
    rw [if_neg (by rintro ⟨rfl, rfl⟩; rw [h] at hy; cases hy)]; exact hy⟩

theorem Env.setB_same (E : Env) (id b : Nat) : (E.setB id b).blk id = some b := by simp [Env.setB]
theorem Env.setB_ne (E : Env) {id i : Nat} (b : Nat) (h : i ≠ id) : (E.setB id b).blk i = E.blk i := by simp [Env.setB, h]
theorem Env.setF_same (E : Env) (k : Nat) (f : Nat → Option Value) (o : Nat) : (E.setF k f).fz k o = f o := by simp [Env.setF]
theorem Env.setF_ne (E : Env) {k b : Nat} (f : Nat → Option Value) (o : Nat) (h : b ≠ k) : (E.setF k f).fz b o = E.fz b o := by simp [Env.setF, h]
theorem Env.setT_same (E : Env) (p l : Nat) (x : Nat × Nat × Nat × Nat) : (E.setT p l x).tip p l = some x := by simp [Env.setT]

theorem ownB_lt {C : Cx} {E : Env} {s : Hs} {hp : Array Obj} (h : SH C E s hp) {a : Nat ⊕ Nat} {k : Nat} (e : ownB E s a = some k) : k < hp.size := (h.own a k e).lt

theorem push_old {hp : Array Obj} {O : Obj} {k : Nat} (h : k < hp.size) : (hp.push O)[k]? = hp[k]? := by
  rw [Array.getElem?_push, if_neg (by omega)]

/-- A new object. -/
theorem Post.alloc {C : Cx} {nn mm : Nat} {E : Env} {s : Hs} {w w' : World} (h : SH C E s w.heap) {id n' : Nat} {o : AO} {O : Obj} (hid : E.blk id = none) (hn : s.n ≤ n') (hlt : id < n') (hnn : nn ≤ id)
    (hhp : w'.heap = w.heap.push O) (hos : w'.os = w.os) (ht : w'.tape = w.tape) (hout : w'.output = w.output)
    (ho : o.rel (E.setB id w.heap.size) w.heap.size (w.heap.push O)) : Post C nn mm E s w (E.setB id w.heap.size) ⟨hset s.H id (some o), s.T, n', s.m⟩ w' := by
  have hle := Env.setB_le (b := w.heap.size) hid
  have hoff : ∀ a, ownB E s a ≠ some w.heap.size := fun a e => by have := ownB_lt h e; omega
  have hsh : SH C (E.setB id w.heap.size) ⟨hset s.H id (some o), s.T, n', s.m⟩ w'.heap := by
    refine h.upd hle (.inl id) w.heap.size ?_ ?_ (fun _ _ _ => rfl) ?_ (fun p l e => by cases e) (Nat.le_refl _) ?_ (fun a _ => hoff a) ?_ (fun _ _ _ _ => rfl) ?_ ?_ (fun p l hp => h.fresht p l hp)
    · intro a ha
      cases a with
      | inl i => exact hset_ne _ _ (fun e => ha (by rw [e]))
      | inr p => rfl
    · intro i hi
      exact Env.setB_ne _ _ (fun e => hi (by rw [e]))
    · intro i o' e hi
      cases e
      exact ⟨_, Env.setB_same _ _ _⟩
    · intro k hk
      simp only [ownB, hset_same, Env.setB_same, Option.some.injEq] at hk
      refine ⟨hk.symm, o, hset_same _ _ _, by rw [hhp]; exact ho, fun j => h.fz_none (Nat.le_refl _) j⟩
    · intro k hk hl
      rw [hhp, push_old hl]
    · intro b j v hv
      obtain ⟨c, e, z, h1, h2⟩ := h.fz b j v hv
      exact ⟨c, e, z, by rw [hhp, push_old (h.fz_lt hv)]; exact h1, h2⟩
    · intro i hi
      have h2 : n' ≤ i := hi
      rw [Env.setB_ne _ _ (by omega)]
      exact h.freshb i (by omega)
  refine ⟨hsh, hle, hos, ht, hout, by rw [hhp, Array.size_push]; omega, fun k hk _ => by rw [hhp, push_old hk], ?_, ?_, fun p l k => Or.inl ⟨l, k⟩, fun i hi => Env.setB_ne _ _ (by omega), fun _ _ _ _ => rfl, fun _ _ _ _ => rfl, ⟨hn, Nat.le_refl _⟩⟩
  · rintro k hk ⟨a, ha⟩
    cases a with
    | inl i =>
      by_cases e : i = id
      · subst e
        simp only [ownB, hset_same, Env.setB_same, Option.some.injEq] at ha
        omega
      · simp only [ownB, hset_ne _ _ e, Env.setB_ne _ _ e] at ha
        exact ⟨.inl i, ha⟩
    | inr p => exact ⟨.inr p, ha⟩
  · intro i o' hi
    by_cases e : i = id
    · exact Or.inr (by omega)
    · simp only [hset_ne _ _ e] at hi
      exact Or.inl ⟨o', hi⟩

/-- An object is changed. -/
theorem Post.change {C : Cx} {nn mm : Nat} {E : Env} {s : Hs} {w w' : World} (h : SH C E s w.heap) {id b : Nat} {o o' : AO} (hg : s.H id = some o) (hb : E.blk id = some b) (ho : o'.rel E b w'.heap)
    (hos : w'.os = w.os) (ht : w'.tape = w.tape) (hout : w'.output = w.output) (hsz : w'.heap.size = w.heap.size) (hs : ∀ k, k ≠ b → w'.heap[k]? = w.heap[k]?) :
    Post C nn mm E s w E ⟨hset s.H id (some o'), s.T, s.n, s.m⟩ w' := by
  have hown : ownB E s (.inl id) = some b := by simp [ownB, hg, hb]
  obtain ⟨b', hb', _, hfree⟩ := h.obj hg
  rw [hb] at hb'; cases hb'
  have hsh : SH C E ⟨hset s.H id (some o'), s.T, s.n, s.m⟩ w'.heap := by
    refine h.upd (Env.le.refl E) (.inl id) b ?_ (fun _ _ => rfl) (fun _ _ _ => rfl) ?_ (fun p l e => by cases e) (Nat.le_refl _) ?_ ?_ (fun k hk _ => hs k hk) (fun _ _ _ _ => rfl) ?_ h.freshb h.fresht
    · intro a ha
      cases a with
      | inl i => exact hset_ne _ _ (fun e => ha (by rw [e]))
      | inr p => rfl
    · intro i o1 e hi
      cases e
      exact ⟨b, hb⟩
    · intro k hk
      simp only [ownB, hset_same, hb, Option.some.injEq] at hk
      exact ⟨hk.symm, o', hset_same _ _ _, ho, hfree⟩
    · intro a ha e
      exact ha (h.inj _ _ _ e hown)
    · intro k j v hv
      obtain ⟨c, e, z, h1, h2⟩ := h.fz k j v hv
      have : k ≠ b := by intro e; subst e; rw [hfree j] at hv; cases hv
      exact ⟨c, e, z, by rw [hs k this]; exact h1, h2⟩
  refine ⟨hsh, Env.le.refl E, hos, ht, hout, by omega, fun k hk hno => hs k (fun e => hno (e ▸ ⟨_, hown⟩)), ?_, ?_, fun p l k => Or.inl ⟨l, k⟩, fun _ _ => rfl, fun _ _ _ _ => rfl, fun _ _ _ _ => rfl, ⟨Nat.le_refl _, Nat.le_refl _⟩⟩
  · rintro k hk ⟨a, ha⟩
    cases a with
    | inl i =>
      by_cases e : i = id
      · subst e
        simp only [ownB, hset_same] at ha
        exact ⟨.inl i, by simp only [ownB, hg]; exact ha⟩
      · simp only [ownB, hset_ne _ _ e] at ha
        exact ⟨.inl i, ha⟩
    | inr p => exact ⟨.inr p, ha⟩
  · intro i o1 hi
    by_cases e : i = id
    · subst e; exact Or.inl ⟨o, hg⟩
    · simp only [hset_ne _ _ e] at hi
      exact Or.inl ⟨o1, hi⟩

/-- An object is dropped. -/
theorem Post.drop {C : Cx} {nn mm : Nat} {E : Env} {s : Hs} {w : World} (h : SH C E s w.heap) (id : Nat) : Post C nn mm E s w E ⟨hset s.H id none, s.T, s.n, s.m⟩ w :=
  (Post.refl h).sub ⟨fun i o (k : hset s.H id none i = some o) => by
    by_cases e : i = id
    · subst e; rw [hset_same] at k; cases k
    · rw [hset_ne _ _ e] at k; exact k, fun p l k => k⟩ (Nat.le_refl _) (Nat.le_refl _)

/-- A new list that may be appended to. -/
theorem Post.newtip {C : Cx} {nn mm : Nat} {E : Env} {s : Hs} {w w' : World} (h : SH C E s w.heap) {q m' l cap sz : Nat} {c : Array Value} {e : TypeId} {z : Nat × Nat} {f : Nat → Option Value}
    (hq : ∀ i, E.tip q i = none) (hm : s.m ≤ m') (hlt : q < m') (hmm : mm ≤ q) (hhp : w'.heap = w.heap.push (.cells c e z)) (hos : w'.os = w.os) (ht : w'.tape = w.tape) (hout : w'.output = w.output)
    (hf : ∀ o v, f o = some v → c[o]? = some v) (hf2 : ∀ o, l * sz ≤ o → f o = none) (hcap : cap * sz ≤ c.size) (hz : z = (0, 0) ∨ z.2 ≤ l * sz) (hl : l ≤ cap) :
    Post C nn mm E s w ((E.setF w.heap.size f).setT q l (w.heap.size, 0, cap, sz)) ⟨s.H, hset s.T q (some l), s.n, m'⟩ w' := by
  have hf0 : ∀ o x, E.fz w.heap.size o = some x → f o = some x := fun o x k => by rw [h.fz_none (Nat.le_refl _)] at k; cases k
  have hle : E.le ((E.setF w.heap.size f).setT q l (w.heap.size, 0, cap, sz)) := (Env.setF_le hf0).trans (Env.setT_le (hq l))
  have hoff : ∀ a, ownB E s a ≠ some w.heap.size := fun a e => by have := ownB_lt h e; omega
  have tne : ∀ p i, p ≠ q → ((E.setF w.heap.size f).setT q l (w.heap.size, 0, cap, sz)).tip p i = E.tip p i := fun p i hp => by simp [Env.setT, hp, Env.setF]
  have hsh : SH C ((E.setF w.heap.size f).setT q l (w.heap.size, 0, cap, sz)) ⟨s.H, hset s.T q (some l), s.n, m'⟩ w'.heap := by
    refine h.upd hle (.inr q) w.heap.size ?_ (fun _ _ => rfl) ?_ (fun i o e => by cases e) ?_ (by first | exact hm | exact Nat.le_refl _) ?_ (fun a _ => hoff a) ?_ ?_ ?_ h.freshb ?_
    · intro a ha
      cases a with
      | inl i => rfl
      | inr p => exact hset_ne _ _ (fun e => ha (by rw [e]))
    · intro p i hp
      exact tne p i (fun e => hp (by rw [e]))
    · intro p i e hi
      cases e
      simp only [hset_same, Option.some.injEq] at hi
      subst hi
      exact Or.inl ⟨_, Env.setT_same _ _ _ _⟩
    · intro k hk
      simp only [ownB, hset_same, Env.setT_same, Option.some.injEq] at hk
      refine ⟨hk.symm, l, 0, cap, sz, hset_same _ _ _, Env.setT_same _ _ _ _, ⟨c, e, z, by rw [hhp]; simp, by simpa using hcap, by simpa using hz, fun j hj => ?_, hl⟩, fun l' hl' => ?_⟩
      · show (E.setF w.heap.size f).fz w.heap.size j = none
        rw [Env.setF_same]; exact hf2 j (by simpa using hj)
      · show (if q = q ∧ l' = l then _ else E.tip q l') = none
        rw [if_neg (by omega)]; exact hq l'
    · intro k hk hl
      rw [hhp, push_old hl]
    · intro k hk j _
      exact Env.setF_ne _ _ _ hk
    · intro b j v hv
      by_cases eb : b = w.heap.size
      · subst eb
        have hv' : (E.setF w.heap.size f).fz w.heap.size j = some v := hv
        rw [Env.setF_same] at hv'
        exact ⟨c, e, z, by rw [hhp]; simp, hf j v hv'⟩
      · have hv' : (E.setF w.heap.size f).fz b j = some v := hv
        rw [Env.setF_ne _ _ _ eb] at hv'
        obtain ⟨c1, e1, z1, h1, h2⟩ := h.fz b j v hv'
        exact ⟨c1, e1, z1, by rw [hhp, push_old (h.fz_lt hv')]; exact h1, h2⟩
    · intro p i hp
      have hp' : m' ≤ p := hp
      rw [tne p i (by omega)]
      exact h.fresht p i (by omega)
  refine ⟨hsh, hle, hos, ht, hout, by rw [hhp, Array.size_push]; omega, fun k hk _ => by rw [hhp, push_old hk], ?_, fun id o k => Or.inl ⟨o, k⟩, ?_, fun _ _ => rfl, fun p i hp _ => tne p i (by omega), fun k j hk _ => Env.setF_ne _ _ _ (by omega), ⟨Nat.le_refl _, hm⟩⟩
  · rintro k hk ⟨a, ha⟩
    cases a with
    | inl i => exact ⟨.inl i, ha⟩
    | inr p =>
      by_cases e : p = q
      · subst e
        simp only [ownB, hset_same, Env.setT_same, Option.some.injEq] at ha
        omega
      · simp only [ownB, hset_ne _ _ e, tne p _ e] at ha
        exact ⟨.inr p, ha⟩
  · intro p i hi
    by_cases e : p = q
    · exact Or.inr (by omega)
    · simp only [hset_ne _ _ e] at hi
      exact Or.inl ⟨i, hi⟩

/-- A list is appended to, where it stands. -/
theorem Post.tipIn {C : Cx} {nn mm : Nat} {E : Env} {s : Hs} {w w' : World} (h : SH C E s w.heap) {q l l' b o cap sz : Nat} {c c' : Array Value} {e : TypeId} {z : Nat × Nat} {f : Nat → Option Value}
    (hT : s.T q = some l) (hE : E.tip q l = some (b, o, cap, sz)) (hl : l < l') (hcap : l' ≤ cap) (hc0 : w.heap[b]? = some (.cells c e z)) (hc1 : w'.heap[b]? = some (.cells c' e z)) (hcs : c'.size = c.size)
    (hos : w'.os = w.os) (ht : w'.tape = w.tape) (hout : w'.output = w.output) (hsz : w'.heap.size = w.heap.size) (hs : ∀ k, k ≠ b → w'.heap[k]? = w.heap[k]?)
    (hf0 : ∀ j x, E.fz b j = some x → f j = some x) (hf : ∀ j v, f j = some v → c'[j]? = some v) (hf2 : ∀ j, o + l' * sz ≤ j → f j = none) :
    Post C nn mm E s w ((E.setF b f).setT q l' (b, o, cap, sz)) ⟨s.H, hset s.T q (some l'), s.n, s.m⟩ w' := by
  obtain ⟨⟨c1, e1, z1, k2, k3, k4, k5, k6⟩, k7⟩ := h.tip hT hE
  rw [hc0] at k2; cases k2
  have hle : E.le ((E.setF b f).setT q l' (b, o, cap, sz)) := (Env.setF_le hf0).trans (Env.setT_le (k7 l' hl))
  have hown : ownB E s (.inr q) = some b := by simp [ownB, hT, hE]
  have tne : ∀ p i, p ≠ q → ((E.setF b f).setT q l' (b, o, cap, sz)).tip p i = E.tip p i := fun p i hp => by simp [Env.setT, hp, Env.setF]
  have hmq : q < s.m := by
    rcases Nat.lt_or_ge q s.m with hh | hh
    · exact hh
    · have := h.fresht q l hh; rw [hE] at this; cases this
  have hmul : o + l * sz ≤ o + l' * sz := by have := Nat.mul_le_mul_right sz (Nat.le_of_lt hl); omega
  have hsh : SH C ((E.setF b f).setT q l' (b, o, cap, sz)) ⟨s.H, hset s.T q (some l'), s.n, s.m⟩ w'.heap := by
    refine h.upd hle (.inr q) b ?_ (fun _ _ => rfl) ?_ (fun i o e => by cases e) ?_ (Nat.le_refl _) ?_ ?_ (fun k hk _ => hs k hk) ?_ ?_ h.freshb ?_
    · intro a ha
      cases a with
      | inl i => rfl
      | inr p => exact hset_ne _ _ (fun e => ha (by rw [e]))
    · intro p i hp
      exact tne p i (fun e => hp (by rw [e]))
    · intro p i e hi
      cases e
      simp only [hset_same, Option.some.injEq] at hi
      subst hi
      exact Or.inl ⟨_, Env.setT_same _ _ _ _⟩
    · intro k hk
      simp only [ownB, hset_same, Env.setT_same, Option.some.injEq] at hk
      refine ⟨hk.symm, l', o, cap, sz, hset_same _ _ _, Env.setT_same _ _ _ _, ⟨c', e, z, hc1, by omega, k4.imp (fun h => h) (fun h => by omega), fun j hj => ?_, hcap⟩, fun i hi => ?_⟩
      · show (E.setF b f).fz b j = none
        rw [Env.setF_same]; exact hf2 j hj
      · show (if q = q ∧ i = l' then _ else E.tip q i) = none
        rw [if_neg (by omega)]; exact k7 i (by omega)
    · intro a ha e
      exact ha (h.inj _ _ _ e hown)
    · intro k hk j _
      exact Env.setF_ne _ _ _ hk
    · intro k j v hv
      by_cases eb : k = b
      · subst eb
        have hv' : (E.setF k f).fz k j = some v := hv
        rw [Env.setF_same] at hv'
        exact ⟨c', e, z, hc1, hf j v hv'⟩
      · have hv' : (E.setF b f).fz k j = some v := hv
        rw [Env.setF_ne _ _ _ eb] at hv'
        obtain ⟨c1, e1, z1, h1, h2⟩ := h.fz k j v hv'
        exact ⟨c1, e1, z1, by rw [hs k eb]; exact h1, h2⟩
    · intro p i hp
      have hp' : s.m ≤ p := hp
      rw [tne p i (by omega)]
      exact h.fresht p i (by omega)
  refine ⟨hsh, hle, hos, ht, hout, by omega, fun k hk hno => hs k (fun e => hno (e ▸ ⟨_, hown⟩)), ?_, fun id o k => Or.inl ⟨o, k⟩, ?_, fun _ _ => rfl, fun p i hp hpn => tne p i (fun e => by subst e; rw [hT] at hpn; cases hpn), fun k j hk hno => Env.setF_ne _ _ _ (fun e => hno (e ▸ ⟨_, hown⟩)), ⟨Nat.le_refl _, Nat.le_refl _⟩⟩
  · rintro k hk ⟨a, ha⟩
    cases a with
    | inl i => exact ⟨.inl i, ha⟩
    | inr p =>
      by_cases e : p = q
      · subst e
        simp only [ownB, hset_same, Env.setT_same, Option.some.injEq] at ha
        exact ⟨.inr p, by rw [hown, ha]⟩
      · simp only [ownB, hset_ne _ _ e, tne p _ e] at ha
        exact ⟨.inr p, ha⟩
  · intro p i hi
    by_cases e : p = q
    · subst e; exact Or.inl ⟨l, hT⟩
    · simp only [hset_ne _ _ e] at hi
      exact Or.inl ⟨i, hi⟩

/-- A list is appended to, and stands elsewhere then. -/
theorem Post.tipNew {C : Cx} {nn mm : Nat} {E : Env} {s : Hs} {w w' : World} (h : SH C E s w.heap) {q l l' cap sz : Nat} {c : Array Value} {e : TypeId} {z : Nat × Nat} {f : Nat → Option Value}
    (hT : s.T q = some l) (k7 : ∀ i, l < i → E.tip q i = none) (hmq : q < s.m) (hl : l < l') (hhp : w'.heap = w.heap.push (.cells c e z)) (hos : w'.os = w.os) (ht : w'.tape = w.tape) (hout : w'.output = w.output)
    (hf : ∀ o v, f o = some v → c[o]? = some v) (hf2 : ∀ o, l' * sz ≤ o → f o = none) (hcap : cap * sz ≤ c.size) (hz : z = (0, 0) ∨ z.2 ≤ l' * sz) (hlc : l' ≤ cap) :
    Post C nn mm E s w ((E.setF w.heap.size f).setT q l' (w.heap.size, 0, cap, sz)) ⟨s.H, hset s.T q (some l'), s.n, s.m⟩ w' := by
  have hf0 : ∀ o x, E.fz w.heap.size o = some x → f o = some x := fun o x k => by rw [h.fz_none (Nat.le_refl _)] at k; cases k
  have hle : E.le ((E.setF w.heap.size f).setT q l' (w.heap.size, 0, cap, sz)) := (Env.setF_le hf0).trans (Env.setT_le (k7 l' hl))
  have hoff : ∀ a, ownB E s a ≠ some w.heap.size := fun a e => by have := ownB_lt h e; omega
  have tne : ∀ p i, p ≠ q → ((E.setF w.heap.size f).setT q l' (w.heap.size, 0, cap, sz)).tip p i = E.tip p i := fun p i hp => by simp [Env.setT, hp, Env.setF]
  have hsh : SH C ((E.setF w.heap.size f).setT q l' (w.heap.size, 0, cap, sz)) ⟨s.H, hset s.T q (some l'), s.n, s.m⟩ w'.heap := by
    refine h.upd hle (.inr q) w.heap.size ?_ (fun _ _ => rfl) ?_ (fun i o e => by cases e) ?_ (by first | exact hm | exact Nat.le_refl _) ?_ (fun a _ => hoff a) ?_ ?_ ?_ h.freshb ?_
    · intro a ha
      cases a with
      | inl i => rfl
      | inr p => exact hset_ne _ _ (fun e => ha (by rw [e]))
    · intro p i hp
      exact tne p i (fun e => hp (by rw [e]))
    · intro p i e hi
      cases e
      simp only [hset_same, Option.some.injEq] at hi
      subst hi
      exact Or.inl ⟨_, Env.setT_same _ _ _ _⟩
    · intro k hk
      simp only [ownB, hset_same, Env.setT_same, Option.some.injEq] at hk
      refine ⟨hk.symm, l', 0, cap, sz, hset_same _ _ _, Env.setT_same _ _ _ _, ⟨c, e, z, by rw [hhp]; simp, by simpa using hcap, by simpa using hz, fun j hj => ?_, hlc⟩, fun i hi => ?_⟩
      · show (E.setF w.heap.size f).fz w.heap.size j = none
        rw [Env.setF_same]; exact hf2 j (by simpa using hj)
      · show (if q = q ∧ i = l' then _ else E.tip q i) = none
        rw [if_neg (by omega)]; exact k7 i (by omega)
    · intro k hk hl
      rw [hhp, push_old hl]
    · intro k hk j _
      exact Env.setF_ne _ _ _ hk
    · intro b j v hv
      by_cases eb : b = w.heap.size
      · subst eb
        have hv' : (E.setF w.heap.size f).fz w.heap.size j = some v := hv
        rw [Env.setF_same] at hv'
        exact ⟨c, e, z, by rw [hhp]; simp, hf j v hv'⟩
      · have hv' : (E.setF w.heap.size f).fz b j = some v := hv
        rw [Env.setF_ne _ _ _ eb] at hv'
        obtain ⟨c1, e1, z1, h1, h2⟩ := h.fz b j v hv'
        exact ⟨c1, e1, z1, by rw [hhp, push_old (h.fz_lt hv')]; exact h1, h2⟩
    · intro p i hp
      have hp' : s.m ≤ p := hp
      rw [tne p i (by omega)]
      exact h.fresht p i (by omega)
  refine ⟨hsh, hle, hos, ht, hout, by rw [hhp, Array.size_push]; omega, fun k hk _ => by rw [hhp, push_old hk], ?_, fun id o k => Or.inl ⟨o, k⟩, ?_, fun _ _ => rfl, fun p i hp hpn => tne p i (fun e => by subst e; rw [hT] at hpn; cases hpn), fun k j hk _ => Env.setF_ne _ _ _ (by omega), ⟨Nat.le_refl _, Nat.le_refl _⟩⟩
  · rintro k hk ⟨a, ha⟩
    cases a with
    | inl i => exact ⟨.inl i, ha⟩
    | inr p =>
      by_cases e : p = q
      · subst e
        simp only [ownB, hset_same, Env.setT_same, Option.some.injEq] at ha
        omega
      · simp only [ownB, hset_ne _ _ e, tne p _ e] at ha
        exact ⟨.inr p, ha⟩
  · intro p i hi
    by_cases e : p = q
    · subst e; exact Or.inl ⟨l, hT⟩
    · simp only [hset_ne _ _ e] at hi
      exact Or.inl ⟨i, hi⟩

/-- A permit of no list yet. -/
theorem Post.newnil {C : Cx} {nn mm : Nat} {E : Env} {s : Hs} {w : World} (h : SH C E s w.heap) {q m' : Nat} (hq : s.m ≤ q) (hlt : q < m') (hmm : mm ≤ q) :
    Post C nn mm E s w E ⟨s.H, hset s.T q (some 0), s.n, m'⟩ w := by
  have htip : ∀ i, E.tip q i = none := fun i => h.fresht q i hq
  have hsh : SH C E ⟨s.H, hset s.T q (some 0), s.n, m'⟩ w.heap := by
    refine h.upd (Env.le.refl E) (.inr q) w.heap.size ?_ (fun _ _ => rfl) (fun _ _ _ => rfl) (fun i o e => by cases e) ?_ (show s.m ≤ m' by omega) ?_ (fun a _ e => by have := ownB_lt h e; omega) (fun _ _ _ => rfl) (fun _ _ _ _ => rfl) h.fz h.freshb (fun p l hp => h.fresht p l (by have : m' ≤ p := hp; omega))
    · intro a ha
      cases a with
      | inl i => rfl
      | inr p => exact hset_ne _ _ (fun e => ha (by rw [e]))
    · intro p i e hi
      cases e
      simp only [hset_same, Option.some.injEq] at hi
      subst hi
      exact Or.inr ⟨rfl, hlt, htip⟩
    · intro k hk
      simp only [ownB, hset_same, htip] at hk
      cases hk
  refine ⟨hsh, Env.le.refl E, rfl, rfl, rfl, Nat.le_refl _, fun k hk _ => rfl, ?_, fun id o k => Or.inl ⟨o, k⟩, ?_, fun _ _ => rfl, fun _ _ _ _ => rfl, fun _ _ _ _ => rfl, ⟨Nat.le_refl _, (show s.m ≤ m' by omega)⟩⟩
  · rintro k hk ⟨a, ha⟩
    cases a with
    | inl i => exact ⟨.inl i, ha⟩
    | inr p =>
      by_cases e : p = q
      · subst e
        simp only [ownB, hset_same, htip] at ha
        cases ha
      · simp only [ownB, hset_ne _ _ e] at ha
        exact ⟨.inr p, ha⟩
  · intro p i hi
    by_cases e : p = q
    · exact Or.inr (by omega)
    · simp only [hset_ne _ _ e] at hi
      exact Or.inl ⟨i, hi⟩

/-- New cells that stay. -/
theorem Post.freeze {C : Cx} {nn mm : Nat} {E : Env} {s : Hs} {w w' : World} (h : SH C E s w.heap) {c : Array Value} {e : TypeId} {z : Nat × Nat} {f : Nat → Option Value} {O : Obj}
    (hhp : w'.heap = w.heap.push O) (hos : w'.os = w.os) (ht : w'.tape = w.tape) (hout : w'.output = w.output) (hO : O = .cells c e z) (hf : ∀ o v, f o = some v → c[o]? = some v) :
    Post C nn mm E s w (E.setF w.heap.size f) s w' := by
  subst hO
  have hf0 : ∀ o x, E.fz w.heap.size o = some x → f o = some x := fun o x k => by rw [h.fz_none (Nat.le_refl _)] at k; cases k
  have hle : E.le (E.setF w.heap.size f) := Env.setF_le hf0
  have hsh : SH C (E.setF w.heap.size f) s w'.heap := by
    refine ⟨h.toth, h.tott, ?_, h.inj, ?_, h.freshb, h.fresht, fun g cs hg => (h.glob g cs hg).mono hle⟩
    · intro a k hk
      have hr := h.own a k hk
      have hlt := hr.lt
      have hold : w'.heap[k]? = w.heap[k]? := by rw [hhp]; exact push_old hlt
      have hfz : ∀ j, (E.setF w.heap.size f).fz k j = E.fz k j := fun j => Env.setF_ne _ _ _ (by omega)
      cases a with
      | inl id =>
        obtain ⟨o, h1, h2, h3⟩ := hr
        exact ⟨o, h1, (h2.mono hle).heap hold, fun j => by rw [hfz]; exact h3 j⟩
      | inr p =>
        obtain ⟨l, o, cap, sz, h1, h2, ⟨c1, e1, z1, h3, h4, h5, h6, h7⟩, h8⟩ := hr
        exact ⟨l, o, cap, sz, h1, h2, ⟨c1, e1, z1, by rw [hold]; exact h3, h4, h5, fun j hj => by rw [hfz]; exact h6 j hj, h7⟩, h8⟩
    · intro b j v hv
      by_cases eb : b = w.heap.size
      · subst eb
        rw [Env.setF_same] at hv
        exact ⟨c, e, z, by rw [hhp]; simp, hf j v hv⟩
      · rw [Env.setF_ne _ _ _ eb] at hv
        obtain ⟨c1, e1, z1, h1, h2⟩ := h.fz b j v hv
        exact ⟨c1, e1, z1, by rw [hhp, push_old (h.fz_lt hv)]; exact h1, h2⟩
  exact ⟨hsh, hle, hos, ht, hout, by rw [hhp, Array.size_push]; omega, fun k hk _ => by rw [hhp, push_old hk], fun k hk ho => ho, fun id o k => Or.inl ⟨o, k⟩, fun p l k => Or.inl ⟨l, k⟩, fun _ _ => rfl, fun _ _ _ _ => rfl, fun k j hk _ => Env.setF_ne _ _ _ (by omega), ⟨Nat.le_refl _, Nat.le_refl _⟩⟩
end Go.Pv
