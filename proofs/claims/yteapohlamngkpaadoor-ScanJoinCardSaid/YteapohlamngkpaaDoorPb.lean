/-
  Values of a program as plain data: what of memory is an object, or a list that may be appended to; how that lies in a world; what steps do to it.
-/
import Derived.Test.YteapohlamngkpaaDoorPa
namespace Go.Pv
open Go.RowKit
set_option linter.unusedVariables false
set_option linter.unusedSimpArgs false

/-- What a map's keys are. -/
inductive KD where
  | int (k : IntKind)
  | str
  | bool

def KD.ok : KD → PV → Prop
  | .int k, .int k' _ => k' = k
  | .str, .str _ => True
  | .bool, .bool _ => True
  | _, _ => False

inductive AO where
  | cells (cs : List PV) (elem : TypeId) (more : Bool)     -- more: cells may stand behind them
  | map (kd : KD) (es : List (PV × PV))
  | siter (s : List UInt8) (pos : Nat)

/-- Objects, permits (to append to a list of so many elements), the next numbers of both. -/
structure Hs where
  H : Nat → Option AO
  T : Nat → Option Nat
  n : Nat
  m : Nat

def RepE (E : Env) : List (PV × PV) → List MapEntry → Prop
  | [], es => es = []
  | (k, v) :: r, es => ∃ e es', es = e :: es' ∧ Rep E k e.key ∧ Rep E v e.val ∧ RepE E r es'

theorem RepE.mono {E E' : Env} (h : E.le E') : ∀ {l : List (PV × PV)} {es : List MapEntry}, RepE E l es → RepE E' l es
  | [], es, k => k
  | (a, b) :: r, es, ⟨e, es', h1, h2, h3, h4⟩ => ⟨e, es', h1, h2.mono h, h3.mono h, RepE.mono h h4⟩

theorem RepE.length {E : Env} : ∀ {l : List (PV × PV)} {es : List MapEntry}, RepE E l es → es.length = l.length
  | [], es, k => by rw [k]; rfl
  | (a, b) :: r, es, ⟨e, es', h1, h2, h3, h4⟩ => by rw [h1]; simp [RepE.length h4]

def AO.rel (E : Env) (b : Nat) (hp : Array Obj) : AO → Prop
  | .cells cs elem more => ∃ xs rest, RepL E cs xs ∧ hp[b]? = some (.cells (xs ++ rest).toArray elem (0, 0)) ∧ (more = false → rest = [])
  | .map kd es => (∃ ents clock, hp[b]? = some (.map ents clock) ∧ RepE E es ents.toList) ∧ ∀ e ∈ es, kd.ok e.1
  | .siter s pos => hp[b]? = some (.stringIter ⟨s.toArray⟩ pos)

theorem AO.rel.mono {E E' : Env} (h : E.le E') {b : Nat} {hp : Array Obj} : ∀ {o : AO}, o.rel E b hp → o.rel E' b hp
  | .cells _ _ _, ⟨xs, rest, a, r⟩ => ⟨xs, rest, a.mono h, r⟩
  | .map _ _, ⟨⟨ents, c, a, r⟩, k⟩ => ⟨⟨ents, c, a, r.mono h⟩, k⟩
  | .siter _ _, k => k

theorem AO.rel.heap {E : Env} {b : Nat} {hp hp' : Array Obj} (h : hp'[b]? = hp[b]?) : ∀ {o : AO}, o.rel E b hp → o.rel E b hp'
  | .cells _ _ _, ⟨xs, rest, a, r, t⟩ => ⟨xs, rest, a, h.trans r, t⟩
  | .map _ _, ⟨⟨ents, c, a, r⟩, k⟩ => ⟨⟨ents, c, h.trans a, r⟩, k⟩
  | .siter _ _, k => h.trans k

theorem AO.rel.lt {E : Env} {b : Nat} {hp : Array Obj} : ∀ {o : AO}, o.rel E b hp → b < hp.size
  | .cells _ _ _, ⟨xs, rest, a, r, t⟩ => (Array.getElem?_eq_some_iff.1 r).1
  | .map _ _, ⟨⟨ents, c, a, r⟩, _⟩ => (Array.getElem?_eq_some_iff.1 a).1
  | .siter _ _, k => (Array.getElem?_eq_some_iff.1 k).1

/-- A list of len elements may be appended to where it stands: room for cap, nothing known behind the len. -/
def TipOk (E : Env) (hp : Array Obj) (len b o cap sz : Nat) : Prop :=
  ∃ c e z, hp[b]? = some (.cells c e z) ∧ o + cap * sz ≤ c.size ∧ (z = (0, 0) ∨ z.2 ≤ o + len * sz) ∧ (∀ k, o + len * sz ≤ k → E.fz b k = none) ∧ len ≤ cap

/-- What a key (an object, a permit) stands at. -/
def ownB (E : Env) (s : Hs) : Nat ⊕ Nat → Option Nat
  | .inl id => match s.H id with
    | some _ => E.blk id
    | none => none
  | .inr p => match s.T p with
    | some l => match E.tip p l with
      | some x => some x.1
      | none => none
    | none => none

def Own (E : Env) (s : Hs) (k : Nat) : Prop := ∃ a, ownB E s a = some k

/-- What is so of a key's block. -/
def OwnRel (E : Env) (s : Hs) (hp : Array Obj) : Nat ⊕ Nat → Nat → Prop
  | .inl id, k => ∃ o, s.H id = some o ∧ o.rel E k hp ∧ ∀ j, E.fz k j = none
  | .inr p, k => ∃ l o cap sz, s.T p = some l ∧ E.tip p l = some (k, o, cap, sz) ∧ TipOk E hp l k o cap sz ∧ ∀ l', l < l' → E.tip p l' = none

structure TI where
  desc : TypeDesc
  info : TypeInfo

/-- What the program's text says, and what is known of its package-level variables; R: what outside contracts say of calls. -/
structure Cx where
  P : Program
  ft : Nat → Option Func
  tt : Nat → Option TI
  glob : Nat → Option (List PV)
  sok : List Nat

structure Cx.Ok (C : Cx) : Prop where
  fn : ∀ f fn, C.ft f = some fn → C.P.funcs[f]? = some fn ∧ (fn.name == "runtime.NumGoroutine") = false
  ty : ∀ t i, C.tt t = some i → C.P.underlying t = some i.desc ∧ C.P.info? t = some i.info
  mixed : C.P.follows .mixedOrders = true
  sok : ∀ t, t ∈ C.sok → C.P.stoodInHeld t = false ∧ C.P.eqGuardType C.P.depth t = false

/-- A permit that is there: of a list that stands somewhere, or of no list yet. -/
def TipAt (E : Env) (m p l : Nat) : Prop := (∃ x, E.tip p l = some x) ∨ (l = 0 ∧ p < m ∧ ∀ l', E.tip p l' = none)

structure SH (C : Cx) (E : Env) (s : Hs) (hp : Array Obj) : Prop where
  toth : ∀ id o, s.H id = some o → ∃ b, E.blk id = some b
  tott : ∀ p l, s.T p = some l → TipAt E s.m p l
  own : ∀ a k, ownB E s a = some k → OwnRel E s hp a k
  inj : ∀ a a' k, ownB E s a = some k → ownB E s a' = some k → a = a'
  fz : ∀ b o v, E.fz b o = some v → ∃ c e z, hp[b]? = some (.cells c e z) ∧ c[o]? = some v
  freshb : ∀ id, s.n ≤ id → E.blk id = none
  fresht : ∀ p l, s.m ≤ p → E.tip p l = none
  glob : ∀ g cs, C.glob g = some cs → RepF E g 0 cs

theorem OwnRel.lt {E : Env} {s : Hs} {hp : Array Obj} : ∀ {a : Nat ⊕ Nat} {k : Nat}, OwnRel E s hp a k → k < hp.size
  | .inl id, k, ⟨o, h1, h2, h3⟩ => h2.lt
  | .inr p, k, ⟨l, o, cap, sz, h1, h2, ⟨c, e, z, h3, h4⟩, _⟩ => (Array.getElem?_eq_some_iff.1 h3).1

theorem SH.obj {C : Cx} {E : Env} {s : Hs} {hp : Array Obj} (h : SH C E s hp) {id : Nat} {o : AO} (hg : s.H id = some o) : ∃ b, E.blk id = some b ∧ o.rel E b hp ∧ ∀ j, E.fz b j = none := by
  obtain ⟨b, hb⟩ := h.toth id o hg
  obtain ⟨o', h1, h2, h3⟩ := h.own (.inl id) b (by simp [ownB, hg, hb])
  rw [hg] at h1; cases h1
  exact ⟨b, hb, h2, h3⟩

theorem SH.tip {C : Cx} {E : Env} {s : Hs} {hp : Array Obj} (h : SH C E s hp) {p l b o cap sz : Nat} (hg : s.T p = some l) (hb : E.tip p l = some (b, o, cap, sz)) : TipOk E hp l b o cap sz ∧ ∀ l', l < l' → E.tip p l' = none := by
  obtain ⟨l', o', cap', sz', h1, h2, h3⟩ := h.own (.inr p) b (by simp [ownB, hg, hb])
  rw [hg] at h1; cases h1
  rw [hb] at h2; cases h2
  exact h3

theorem SH.fz_lt {C : Cx} {E : Env} {s : Hs} {hp : Array Obj} (h : SH C E s hp) {b o : Nat} {v : Value} (hf : E.fz b o = some v) : b < hp.size := by
  obtain ⟨c, e, z, h1, _⟩ := h.fz b o v hf
  exact (Array.getElem?_eq_some_iff.1 h1).1

theorem SH.fz_none {C : Cx} {E : Env} {s : Hs} {hp : Array Obj} (h : SH C E s hp) {b : Nat} (hb : hp.size ≤ b) (o : Nat) : E.fz b o = none := by
  cases hf : E.fz b o with
  | none => rfl
  | some v => have := h.fz_lt hf; omega

/-- The state of a key. -/
def KeySame (s s' : Hs) : Nat ⊕ Nat → Prop
  | .inl id => s'.H id = s.H id
  | .inr p => s'.T p = s.T p

/-- One key is changed, or comes anew; its block is k0. -/
theorem SH.upd {C : Cx} {E E' : Env} {s s' : Hs} {hp hp' : Array Obj} (h : SH C E s hp) (le : E.le E') (a0 : Nat ⊕ Nat) (k0 : Nat)
    (other : ∀ a, a ≠ a0 → KeySame s s' a)
    (blk : ∀ id, Sum.inl id ≠ a0 → E'.blk id = E.blk id) (tip : ∀ p l, Sum.inr p ≠ a0 → E'.tip p l = E.tip p l)
    (tot0 : ∀ id o, a0 = .inl id → s'.H id = some o → ∃ b, E'.blk id = some b) (tot1 : ∀ p l, a0 = .inr p → s'.T p = some l → TipAt E' s'.m p l) (mono : s.m ≤ s'.m)
    (own0 : ∀ k, ownB E' s' a0 = some k → k = k0 ∧ OwnRel E' s' hp' a0 k0)
    (apart : ∀ a, a ≠ a0 → ownB E s a ≠ some k0)
    (same : ∀ k, k ≠ k0 → k < hp.size → hp'[k]? = hp[k]?)
    (fz1 : ∀ k, k ≠ k0 → ∀ o, k < hp.size → E'.fz k o = E.fz k o) (fz2 : ∀ b o v, E'.fz b o = some v → ∃ c e z, hp'[b]? = some (.cells c e z) ∧ c[o]? = some v)
    (hn : ∀ id, s'.n ≤ id → E'.blk id = none) (hm : ∀ p l, s'.m ≤ p → E'.tip p l = none) : SH C E' s' hp' := by
  have ob : ∀ a, a ≠ a0 → ownB E' s' a = ownB E s a := by
    intro a ha
    have hs := other a ha
    cases a with
    | inl id =>
      simp only [KeySame] at hs
      simp only [ownB, hs, blk id ha]
    | inr p =>
      simp only [KeySame] at hs
      simp only [ownB, hs, tip p _ ha]
  refine ⟨?_, ?_, ?_, ?_, fz2, hn, hm, fun g cs hg => (h.glob g cs hg).mono le⟩
  · intro id o hid
    by_cases e : Sum.inl id = a0
    · exact tot0 id o e.symm hid
    · have := other _ e
      simp only [KeySame] at this
      rw [this] at hid
      obtain ⟨b, hb⟩ := h.toth id o hid
      exact ⟨b, le.blk _ _ hb⟩
  · intro p l hp1
    by_cases e : Sum.inr p = a0
    · exact tot1 p l e.symm hp1
    · have := other _ e
      simp only [KeySame] at this
      rw [this] at hp1
      rcases h.tott p l hp1 with ⟨x, hx⟩ | ⟨e1, e2, e3⟩
      · exact Or.inl ⟨x, le.tip _ _ _ hx⟩
      · exact Or.inr ⟨e1, by omega, fun l' => by rw [tip p l' e]; exact e3 l'⟩
  · intro a k hk
    by_cases e : a = a0
    · subst e
      obtain ⟨e1, e2⟩ := own0 k hk
      subst e1; exact e2
    · rw [ob a e] at hk
      have hr := h.own a k hk
      have hk0 : k ≠ k0 := fun e1 => apart a e (e1 ▸ hk)
      have hlt := hr.lt
      have hs := other a e
      cases a with
      | inl id =>
        obtain ⟨o, h1, h2, h3⟩ := hr
        simp only [KeySame] at hs
        exact ⟨o, by rw [hs]; exact h1, (h2.mono le).heap (same k hk0 hlt), fun j => by rw [fz1 k hk0 j hlt]; exact h3 j⟩
      | inr p =>
        obtain ⟨l, o, cap, sz, h1, h2, ⟨c, ee, z, h3, h4, h5, h6, h7⟩, h8⟩ := hr
        simp only [KeySame] at hs
        exact ⟨l, o, cap, sz, by rw [hs]; exact h1, le.tip _ _ _ h2, ⟨c, ee, z, by rw [same k hk0 hlt]; exact h3, h4, h5, fun j hj => by rw [fz1 k hk0 j hlt]; exact h6 j hj, h7⟩, fun l' hl => by rw [tip p l' e]; exact h8 l' hl⟩
  · intro a a' k hk hk'
    by_cases e : a = a0 <;> by_cases e' : a' = a0
    · rw [e, e']
    · subst e
      rw [ob a' e'] at hk'
      exact absurd ((own0 k hk).1 ▸ hk') (apart a' e')
    · subst e'
      rw [ob a e] at hk
      exact absurd ((own0 k hk').1 ▸ hk) (apart a e)
    · rw [ob a e] at hk
      rw [ob a' e'] at hk'
      exact h.inj a a' k hk hk'

/-- Less is claimed. -/
structure Hs.le (s0 s : Hs) : Prop where
  H : ∀ id o, s0.H id = some o → s.H id = some o
  T : ∀ p l, s0.T p = some l → s.T p = some l

theorem Hs.le.refl (s : Hs) : s.le s := ⟨fun _ _ h => h, fun _ _ h => h⟩

theorem ownB_le {E : Env} {s0 s : Hs} (h : s0.le s) : ∀ {a : Nat ⊕ Nat} {k : Nat}, ownB E s0 a = some k → ownB E s a = some k
  | .inl id, k, hk => by
    simp only [ownB] at hk ⊢
    split at hk
    · rename_i o ho
      rw [h.H id o ho]; exact hk
    · cases hk
  | .inr p, k, hk => by
    simp only [ownB] at hk ⊢
    split at hk
    · rename_i l hl
      rw [h.T p l hl]; exact hk
    · cases hk

theorem SH.sub {C : Cx} {E : Env} {s0 s : Hs} {hp : Array Obj} (h : SH C E s hp) (k : s0.le s) (hn : s.n ≤ s0.n) (hm : s.m ≤ s0.m) : SH C E s0 hp := by
  refine ⟨fun id o hid => h.toth id o (k.H id o hid), fun p l hpl => (h.tott p l (k.T p l hpl)).imp (fun e => e) (fun ⟨e1, e2, e3⟩ => ⟨e1, by omega, e3⟩), ?_, fun a a' b h1 h2 => h.inj a a' b (ownB_le k h1) (ownB_le k h2), h.fz,
    fun id hi => h.freshb id (by omega), fun p l hi => h.fresht p l (by omega), h.glob⟩
  intro a b hb
  have hr := h.own a b (ownB_le k hb)
  cases a with
  | inl id =>
    obtain ⟨o, h1, h2, h3⟩ := hr
    simp only [ownB] at hb
    split at hb
    · rename_i o' ho'
      have := k.H id o' ho'
      rw [h1] at this; cases this
      exact ⟨o, ho', h2, h3⟩
    · cases hb
  | inr p =>
    obtain ⟨l, o, cap, sz, h1, h2, h3⟩ := hr
    simp only [ownB] at hb
    split at hb
    · rename_i l' hl'
      have := k.T p l' hl'
      rw [h1] at this; cases this
      exact ⟨l, o, cap, sz, hl', h2, h3⟩
    · cases hb

/-! ### From one state to another -/
structure Post (C : Cx) (n m : Nat) (E : Env) (s : Hs) (w : World) (E' : Env) (s' : Hs) (w' : World) : Prop where
  sh : SH C E' s' w'.heap
  le : E.le E'
  os : w'.os = w.os
  tape : w'.tape = w.tape
  output : w'.output = w.output
  size : w.heap.size ≤ w'.heap.size
  same : ∀ k, k < w.heap.size → ¬ Own E s k → w'.heap[k]? = w.heap[k]?
  own : ∀ k, k < w.heap.size → Own E' s' k → Own E s k
  newb : ∀ id o, s'.H id = some o → (∃ o0, s.H id = some o0) ∨ n ≤ id
  newt : ∀ p l, s'.T p = some l → (∃ l0, s.T p = some l0) ∨ m ≤ p
  oldb : ∀ id, id < n → E'.blk id = E.blk id
  oldt : ∀ p l, p < m → s.T p = none → E'.tip p l = E.tip p l
  fz : ∀ k o, k < w.heap.size → ¬ Own E s k → E'.fz k o = E.fz k o
  mono : s.n ≤ s'.n ∧ s.m ≤ s'.m

theorem Post.refl {C : Cx} {n m : Nat} {E : Env} {s : Hs} {w : World} (h : SH C E s w.heap) : Post C n m E s w E s w :=
  ⟨h, Env.le.refl E, rfl, rfl, rfl, Nat.le_refl _, fun _ _ _ => rfl, fun _ _ h => h, fun _ o k => Or.inl ⟨o, k⟩, fun _ l k => Or.inl ⟨l, k⟩, fun _ _ => rfl, fun _ _ _ _ => rfl, fun _ _ _ _ => rfl, ⟨Nat.le_refl _, Nat.le_refl _⟩⟩

theorem Post.trans {C : Cx} {n m : Nat} {E E1 E2 : Env} {s s1 s2 : Hs} {w w1 w2 : World} (a : Post C n m E s w E1 s1 w1) (b : Post C n m E1 s1 w1 E2 s2 w2) : Post C n m E s w E2 s2 w2 := by
  refine ⟨b.sh, a.le.trans b.le, b.os.trans a.os, b.tape.trans a.tape, b.output.trans a.output, Nat.le_trans a.size b.size, ?_, ?_, ?_, ?_, ?_, ?_, ?_, ⟨Nat.le_trans a.mono.1 b.mono.1, Nat.le_trans a.mono.2 b.mono.2⟩⟩
  · intro k hk hn
    exact (b.same k (Nat.lt_of_lt_of_le hk a.size) (fun hi => hn (a.own k hk hi))).trans (a.same k hk hn)
  · intro k hk hi
    exact a.own k hk (b.own k (Nat.lt_of_lt_of_le hk a.size) hi)
  · intro id o k
    rcases b.newb id o k with ⟨o0, k0⟩ | k0
    · exact a.newb id o0 k0
    · exact Or.inr k0
  · intro p l k
    rcases b.newt p l k with ⟨o0, k0⟩ | k0
    · exact a.newt p o0 k0
    · exact Or.inr k0
  · intro id k
    exact (b.oldb id k).trans (a.oldb id k)
  · intro p l k hs
    refine (b.oldt p l k ?_).trans (a.oldt p l k hs)
    cases h1 : s1.T p with
    | none => rfl
    | some l1 =>
      rcases a.newt p l1 h1 with ⟨l0, k0⟩ | k0
      · rw [hs] at k0; cases k0
      · omega
  · intro k o hk hn
    exact (b.fz k o (Nat.lt_of_lt_of_le hk a.size) (fun hi => hn (a.own k hk hi))).trans (a.fz k o hk hn)

/-- The numbers from which on things are new may be lower. -/
theorem Post.low {C : Cx} {n m n0 m0 : Nat} {E E' : Env} {s s' : Hs} {w w' : World} (a : Post C n m E s w E' s' w') (hn : n0 ≤ n) (hm : m0 ≤ m) : Post C n0 m0 E s w E' s' w' :=
  ⟨a.sh, a.le, a.os, a.tape, a.output, a.size, a.same, a.own, fun id o k => (a.newb id o k).imp (fun h => h) (fun h => by omega), fun p l k => (a.newt p l k).imp (fun h => h) (fun h => by omega),
    fun id k => a.oldb id (by omega), fun p l k hs => a.oldt p l (by omega) hs, a.fz, a.mono⟩

theorem Own.le {E : Env} {s0 s : Hs} (h : s0.le s) {k : Nat} : Own E s0 k → Own E s k := fun ⟨a, e⟩ => ⟨a, ownB_le h e⟩

/-- Less is claimed at the end. -/
theorem Post.sub {C : Cx} {n m : Nat} {E E' : Env} {s s' s1 : Hs} {w w' : World} (a : Post C n m E s w E' s' w') (k : s1.le s') (hn : s'.n ≤ s1.n) (hm : s'.m ≤ s1.m) : Post C n m E s w E' s1 w' :=
  ⟨a.sh.sub k hn hm, a.le, a.os, a.tape, a.output, a.size, a.same, fun j hj ho => a.own j hj (ho.le k), fun id o e => a.newb id o (k.H id o e), fun p l e => a.newt p l (k.T p l e), a.oldb, a.oldt, a.fz, ⟨Nat.le_trans a.mono.1 hn, Nat.le_trans a.mono.2 hm⟩⟩

theorem SH.drew {C : Cx} {n m : Nat} {E : Env} {s : Hs} {w : World} (h : SH C E s w.heap) : Post C n m E s w E s { w with drawn := w.drawn + 1 } :=
  ⟨h, Env.le.refl E, rfl, rfl, rfl, Nat.le_refl _, fun _ _ _ => rfl, fun _ _ h => h, fun _ o k => Or.inl ⟨o, k⟩, fun _ l k => Or.inl ⟨l, k⟩, fun _ _ => rfl, fun _ _ _ _ => rfl, fun _ _ _ _ => rfl, ⟨Nat.le_refl _, Nat.le_refl _⟩⟩

/-- Memory of which more is claimed: what is not run on stays. -/
def Hs.join (s s0 s0' : Hs) : Hs where
  H id := match s0'.H id with
    | some o => some o
    | none => match s0.H id with
      | some _ => none
      | none => s.H id
  T p := match s0'.T p with
    | some l => some l
    | none => match s0.T p with
      | some _ => none
      | none => s.T p
  n := s0'.n
  m := s0'.m

theorem Post.frame {C : Cx} {E E' : Env} {s s0 s0' : Hs} {w w' : World} (h : SH C E s w.heap) (k : s0.le s) (hn : s0.n = s.n) (hm : s0.m = s.m)
    (a : Post C s.n s.m E s0 w E' s0' w') : Post C s.n s.m E s w E' (s.join s0 s0') w' := by
  -- a key of the rest
  have rest : ∀ x b, ownB E' (s.join s0 s0') x = some b → ownB E' s0' x = some b ∨ (ownB E s x = some b ∧ ownB E s0 x = none ∧ ownB E' (s.join s0 s0') x = some b ∧ KeySame s (s.join s0 s0') x ∧ ¬ Own E s0 b ∧ b < w.heap.size) := by
    intro x b hx
    cases x with
    | inl id =>
      simp only [ownB, Hs.join] at hx ⊢
      cases h1 : s0'.H id with
      | some o => rw [h1] at hx; exact Or.inl hx
      | none =>
        rw [h1] at hx
        cases h2 : s0.H id with
        | some o => rw [h2] at hx; simp at hx
        | none =>
          rw [h2] at hx
          simp only at hx
          cases h3 : s.H id with
          | none => rw [h3] at hx; simp at hx
          | some o =>
            rw [h3] at hx
            simp only at hx
            right
            obtain ⟨b', hb'⟩ := h.toth id o h3
            have e1 := a.le.blk _ _ hb'
            rw [hx] at e1; cases e1
            have ho : ownB E s (.inl id) = some b := by simp [ownB, h3, hb']
            refine ⟨by simpa using hb', rfl, by simpa using hx, by simp [KeySame, Hs.join, h1, h2], ?_, (h.own _ _ ho).lt⟩
            rintro ⟨y, hy⟩
            have := h.inj _ _ _ ho (ownB_le k hy)
            subst this
            simp [ownB, h2] at hy
    | inr p =>
      simp only [ownB, Hs.join] at hx ⊢
      cases h1 : s0'.T p with
      | some o => rw [h1] at hx; exact Or.inl hx
      | none =>
        rw [h1] at hx
        cases h2 : s0.T p with
        | some o => rw [h2] at hx; simp at hx
        | none =>
          rw [h2] at hx
          simp only at hx
          cases h3 : s.T p with
          | none => rw [h3] at hx; simp at hx
          | some l =>
            rw [h3] at hx
            simp only at hx
            right
            obtain ⟨x, hx'⟩ : ∃ x, E.tip p l = some x := by
              rcases h.tott p l h3 with e | ⟨_, e2, e3⟩
              · exact e
              · have := a.oldt p l e2 h2
                rw [e3 l] at this
                rw [this] at hx; cases hx
            have e1 := a.le.tip _ _ _ hx'
            rw [e1] at hx
            simp only [Option.some.injEq] at hx
            subst hx
            have ho : ownB E s (.inr p) = some x.1 := by simp [ownB, h3, hx']
            refine ⟨by simp [hx'], rfl, by simp [e1], by simp [KeySame, Hs.join, h1, h2], ?_, (h.own _ _ ho).lt⟩
            rintro ⟨y, hy⟩
            have := h.inj _ _ _ ho (ownB_le k hy)
            subst this
            simp [ownB, h2] at hy
  have le0 : s0'.le (s.join s0 s0') := ⟨fun id o e => by simp [Hs.join, e], fun p l e => by simp [Hs.join, e]⟩
  have subO : ∀ b, Own E s0 b → Own E s b := fun b => Own.le k
  have sh : SH C E' (s.join s0 s0') w'.heap := by
    refine ⟨?_, ?_, ?_, ?_, a.sh.fz, a.sh.freshb, a.sh.fresht, a.sh.glob⟩
    · intro id o hid
      simp only [Hs.join] at hid
      cases h1 : s0'.H id with
      | some o' => exact a.sh.toth id o' h1
      | none =>
        rw [h1] at hid
        cases h2 : s0.H id with
        | some o' => rw [h2] at hid; simp at hid
        | none =>
          rw [h2] at hid
          obtain ⟨b, hb⟩ := h.toth id o hid
          exact ⟨b, a.le.blk _ _ hb⟩
    · intro p l hpl
      simp only [Hs.join] at hpl
      cases h1 : s0'.T p with
      | some l' => rw [h1] at hpl; cases hpl; exact a.sh.tott p _ h1
      | none =>
        rw [h1] at hpl
        cases h2 : s0.T p with
        | some l' => rw [h2] at hpl; simp at hpl
        | none =>
          rw [h2] at hpl
          have hlm : s.m ≤ s0'.m := by rw [← hm]; exact a.mono.2
          rcases h.tott p l hpl with ⟨b, hb⟩ | ⟨e1, e2, e3⟩
          · exact Or.inl ⟨b, a.le.tip _ _ _ hb⟩
          · exact Or.inr ⟨e1, (show p < s0'.m by omega), fun l' => by rw [a.oldt p l' e2 h2]; exact e3 l'⟩
    · intro x b hx
      rcases rest x b hx with h1 | ⟨h1, h2, h3, h4, h5, h6⟩
      · have hr := a.sh.own x b h1
        cases x with
        | inl id =>
          obtain ⟨o, e1, e2⟩ := hr
          exact ⟨o, le0.H _ _ e1, e2⟩
        | inr p =>
          obtain ⟨l, o, cap, sz, e1, e2⟩ := hr
          exact ⟨l, o, cap, sz, le0.T _ _ e1, e2⟩
      · have hr := h.own x b h1
        cases x with
        | inl id =>
          obtain ⟨o, e1, e2, e3⟩ := hr
          simp only [KeySame] at h4
          exact ⟨o, by rw [h4]; exact e1, (e2.mono a.le).heap (a.same b h6 h5), fun j => by rw [a.fz b j h6 h5]; exact e3 j⟩
        | inr p =>
          obtain ⟨l, o, cap, sz, e1, e2, ⟨c, e, z, e3, e4, e5, e6, e7⟩, e8⟩ := hr
          simp only [KeySame] at h4
          have hpm : p < s.m := by
            rcases Nat.lt_or_ge p s.m with h | h'
            · exact h
            · have := h.fresht p l h'; rw [e2] at this; cases this
          have hs0 : s0.T p = none := by
            cases hc : s0.T p with
            | none => rfl
            | some l0 =>
              have := k.T _ _ hc
              rw [e1] at this; cases this
              simp [ownB, hc, e2] at h2
          exact ⟨l, o, cap, sz, by rw [h4]; exact e1, a.le.tip _ _ _ e2, ⟨c, e, z, by rw [a.same b h6 h5]; exact e3, e4, e5, fun j hj => by rw [a.fz b j h6 h5]; exact e6 j hj, e7⟩, fun l' hl => by rw [a.oldt p l' hpm hs0]; exact e8 l' hl⟩
    · intro x y b hx hy
      have cross : ∀ x y, ownB E' s0' x = some b → (ownB E s y = some b ∧ ¬ Own E s0 b ∧ b < w.heap.size) → False := by
        intro x y hx ⟨hy, hny, hlt⟩
        exact hny (a.own b hlt ⟨x, hx⟩)
      rcases rest x b hx with h1 | ⟨h1, h2, h3, h4, h5, h6⟩ <;> rcases rest y b hy with g1 | ⟨g1, g2, g3, g4, g5, g6⟩
      · exact a.sh.inj x y b h1 g1
      · exact (cross x y h1 ⟨g1, g5, g6⟩).elim
      · exact (cross y x g1 ⟨h1, h5, h6⟩).elim
      · exact h.inj x y b h1 g1
  refine ⟨sh, a.le, a.os, a.tape, a.output, a.size, fun j hj hno => a.same j hj (fun ho => hno (subO j ho)), ?_, ?_, ?_, a.oldb, ?_, fun j o hj hno => a.fz j o hj (fun ho => hno (subO j ho)), ⟨hn ▸ a.mono.1, hm ▸ a.mono.2⟩⟩
  · rintro j hj ⟨x, hx⟩
    rcases rest x j hx with h1 | ⟨h1, _⟩
    · exact subO j (a.own j hj ⟨x, h1⟩)
    · exact ⟨x, h1⟩
  · intro id o hid
    simp only [Hs.join] at hid
    cases h1 : s0'.H id with
    | some o' =>
      rcases a.newb id o' h1 with ⟨o0, k0⟩ | k0
      · exact Or.inl ⟨o0, k.H _ _ k0⟩
      · exact Or.inr k0
    | none =>
      rw [h1] at hid
      cases h2 : s0.H id with
      | some o' => rw [h2] at hid; simp at hid
      | none => rw [h2] at hid; exact Or.inl ⟨o, hid⟩
  · intro p l hpl
    simp only [Hs.join] at hpl
    cases h1 : s0'.T p with
    | some l' =>
      rcases a.newt p l' h1 with ⟨o0, k0⟩ | k0
      · exact Or.inl ⟨o0, k.T _ _ k0⟩
      · exact Or.inr k0
    | none =>
      rw [h1] at hpl
      cases h2 : s0.T p with
      | some l' => rw [h2] at hpl; simp at hpl
      | none => rw [h2] at hpl; exact Or.inl ⟨l, hpl⟩
  · intro p l hpm hs
    refine a.oldt p l hpm ?_
    cases h2 : s0.T p with
    | none => rfl
    | some l' => rw [k.T _ _ h2] at hs; cases hs
end Go.Pv
