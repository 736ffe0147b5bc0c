/-
  A run of closed code by the kernel: how an abstract state lies in a world; what changes of memory do to that.
-/
import Derived.Test.YtggonamheakkkaaGreatDoorXa
import Derived.Lib.Bytealg
import Derived.Laws.Externs
namespace Go.Xq
open Go.RowKit
set_option linter.unusedVariables false

inductive AO where
  | cells (cs : List SV) (elem : TypeId) (slack : Option Nat) (mk : Bool)     -- slack: the size of an element of a row that may go on behind these cells
  | map (es : List (SV × SV))
  | siter (s : List UInt8) (pos : Nat)
  | ro (cs : List SV)      -- cells that are only read
  | loop (st : LoopState) (pend : Option Code) (t : Tr SV) (sz : Nat) (ps : List Tmp) (assign body : Code)      -- the record of a range over a function

/-- A map's entries. -/
noncomputable def denE (E : Env) : List (SV × SV) → List MapEntry → Prop
  | [], es => es = []
  | (k, v) :: r, es => ∃ e es', es = e :: es' ∧ k.den E = some e.key ∧ v.den E = some e.val ∧ denE E r es'

theorem denE_mono {E E' : Env} (h : E.le E') : ∀ (l : List (SV × SV)) (es : List MapEntry), denE E l es → denE E' l es
  | [], es, k => k
  | (a, b) :: r, es, ⟨e, es', h1, h2, h3, h4⟩ => ⟨e, es', h1, SV.den_mono h _ _ h2, SV.den_mono h _ _ h3, denE_mono h r es' h4⟩

theorem denE_length {E : Env} : ∀ (l : List (SV × SV)) (es : List MapEntry), denE E l es → es.length = l.length
  | [], es, k => by rw [k]; rfl
  | (a, b) :: r, es, ⟨e, es', h1, h2, h3, h4⟩ => by rw [h1]; simp [denE_length r es' h4]

noncomputable def AO.rel (E : Env) (p : Nat × Nat) (hp : Array Obj) : AO → Prop
  | .cells cs elem slack mk => ∃ vs rest fz, denL E cs = some vs ∧ hp[p.1]? = some (.cells (vs ++ rest).toArray elem fz) ∧
      (slack = none → rest = []) ∧ (∀ sz, slack = some sz → vs.length + rest.length = p.2 * sz) ∧ (mk = false → fz = (0, 0)) ∧ (fz = (0, 0) ∨ vs.length + rest.length ≤ fz.1)
  | .map es => ∃ ents clock, hp[p.1]? = some (.map ents clock) ∧ denE E es ents.toList
  | .siter s pos => hp[p.1]? = some (.stringIter ⟨s.toArray⟩ pos)
  | .ro cs => ∃ xs c e fz, denL E cs = some xs ∧ hp[p.1]? = some (.cells c e fz) ∧ ∀ (j : Nat) (x : Value), xs[j]? = some x → c[j]? = some x
  | .loop st pend t sz ps assign body => ∃ fn tmps defers, hp[p.1]? = some (.loop { state := st, pending := pend, fn, tmps, params := ps.toArray, assign, body, defers }) ∧ tmps.size = sz ∧ ∀ k v, t.get k = some v → ∃ x, tmps[k]? = some x ∧ v.den E = some x

theorem AO.rel_mono {E E' : Env} (h : E.le E') {p : Nat × Nat} {hp : Array Obj} : ∀ {o : AO}, o.rel E p hp → o.rel E' p hp
  | .cells _ _ _ _, ⟨vs, rest, fz, a, b⟩ => ⟨vs, rest, fz, denL_mono h _ _ a, b⟩
  | .map es, ⟨ents, c, a, b⟩ => ⟨ents, c, a, denE_mono h _ _ b⟩
  | .siter s pos, k => k
  | .ro cs, ⟨xs, c, e, fz, a, b⟩ => ⟨xs, c, e, fz, denL_mono h _ _ a, b⟩
  | .loop _ _ _ _ _ _ _, ⟨fn, tmps, ds, a, b, c⟩ => ⟨fn, tmps, ds, a, b, fun k v hk => let ⟨x, c1, c2⟩ := c k v hk; ⟨x, c1, SV.den_mono h _ _ c2⟩⟩

theorem AO.rel_heap {E : Env} {p : Nat × Nat} {hp hp' : Array Obj} (h : hp'[p.1]? = hp[p.1]?) : ∀ {o : AO}, o.rel E p hp → o.rel E p hp'
  | .cells _ _ _ _, ⟨vs, rest, fz, a, b, c⟩ => ⟨vs, rest, fz, a, h.trans b, c⟩
  | .map es, ⟨ents, c, a, b⟩ => ⟨ents, c, h.trans a, b⟩
  | .siter s pos, k => h.trans k
  | .ro cs, ⟨xs, c, e, fz, a, b, d⟩ => ⟨xs, c, e, fz, a, h.trans b, d⟩
  | .loop _ _ _ _ _ _ _, ⟨fn, tmps, ds, a, b⟩ => ⟨fn, tmps, ds, h.trans a, b⟩

theorem AO.rel_lt {E : Env} {p : Nat × Nat} {hp : Array Obj} : ∀ {o : AO}, o.rel E p hp → p.1 < hp.size
  | .cells _ _ _ _, ⟨vs, rest, fz, a, b, c⟩ => (Array.getElem?_eq_some_iff.1 b).1
  | .map es, ⟨ents, c, a, b⟩ => (Array.getElem?_eq_some_iff.1 a).1
  | .siter s pos, k => (Array.getElem?_eq_some_iff.1 k).1
  | .ro cs, ⟨xs, c, e, fz, a, b, d⟩ => (Array.getElem?_eq_some_iff.1 b).1
  | .loop _ _ _ _ _ _ _, ⟨fn, tmps, ds, a, b⟩ => (Array.getElem?_eq_some_iff.1 a).1

noncomputable instance {α : Type} : Coe (Tr α) (Nat → Option α) := ⟨Tr.get⟩

/-- The blocks lie in memory as the abstract state says. -/
structure HR (E : Env) (h : Nat → Option AO) (hp : Array Obj) : Prop where
  obj : ∀ id o, h id = some o → ∃ p, E.blk id = some p ∧ o.rel E p hp
  inj : ∀ i j o o' p q, h i = some o → h j = some o' → E.blk i = some p → E.blk j = some q → p.1 = q.1 → i = j

/-- A block that the run may write into. -/
noncomputable def Img (G : Nat) (E : Env) (h : Nat → Option AO) (k : Nat) : Prop := ∃ id o p, G ≤ id ∧ h id = some o ∧ E.blk id = some p ∧ p.1 = k

/-- From one state to another: what was there and is not the run's own stays. -/
structure Fr (G : Nat) (E : Env) (h : Nat → Option AO) (w : World) (E' : Env) (h' : Nat → Option AO) (w' : World) : Prop where
  le : E.le E'
  os : w'.os = w.os
  tape : w'.tape = w.tape
  output : w'.output = w.output
  size : w.heap.size ≤ w'.heap.size
  same : ∀ k, k < w.heap.size → ¬ Img G E h k → w'.heap[k]? = w.heap[k]?
  img : ∀ k, k < w.heap.size → Img G E' h' k → Img G E h k

theorem Fr.refl (G : Nat) (E : Env) (h : Nat → Option AO) (w : World) : Fr G E h w E h w := ⟨Env.le.refl E, rfl, rfl, rfl, Nat.le_refl _, fun _ _ _ => rfl, fun _ _ h => h⟩

theorem Fr.trans {G : Nat} {E E1 E2 : Env} {h h1 h2 : Nat → Option AO} {w w1 w2 : World} (a : Fr G E h w E1 h1 w1) (b : Fr G E1 h1 w1 E2 h2 w2) : Fr G E h w E2 h2 w2 :=
  ⟨a.le.trans b.le, b.os.trans a.os, b.tape.trans a.tape, b.output.trans a.output, Nat.le_trans a.size b.size,
    fun k hk hn => (b.same k (Nat.lt_of_lt_of_le hk a.size) (fun hi => hn (a.img k hk hi))).trans (a.same k hk hn),
    fun k hk hi => a.img k hk (b.img k (Nat.lt_of_lt_of_le hk a.size) hi)⟩

theorem Fr.drew {G : Nat} {E : Env} {h : Nat → Option AO} {w : World} : Fr G E h w E h { w with drawn := w.drawn + 1 } := ⟨Env.le.refl E, rfl, rfl, rfl, Nat.le_refl _, fun _ _ _ => rfl, fun _ _ h => h⟩

/-- A number that stands for a block is given to a new one. -/
noncomputable def Env.set (E : Env) (id : Nat) (p : Nat × Nat) : Env := { E with blk := fun i => if i = id then some p else E.blk i }

theorem Env.set_le {E : Env} {id : Nat} {p : Nat × Nat} (h : E.blk id = none) : E.le (E.set id p) :=
  ⟨rfl, fun i q hq => by
    show (if i = id then some p else E.blk i) = some q
    rw [if_neg (by intro e; subst e; rw [h] at hq; cases hq)]; exact hq, rfl⟩

theorem Env.set_same (E : Env) (id : Nat) (p : Nat × Nat) : (E.set id p).blk id = some p := by simp [Env.set]
theorem Env.set_ne (E : Env) {id i : Nat} (p : Nat × Nat) (h : i ≠ id) : (E.set id p).blk i = E.blk i := by simp [Env.set, h]

/-- A new block. -/
theorem HR.alloc {E : Env} {h h' : Nat → Option AO} {w : World} {n : Nat} {o : AO} {O : Obj} {room : Nat} (hr : HR E h w.heap) (hn : E.blk n = none) (hg : ∀ j, h' j = if j = n then some o else h j)
    (ho : o.rel (E.set n (w.heap.size, room)) (w.heap.size, room) (w.heap.push O)) : HR (E.set n (w.heap.size, room)) h' (w.heap.push O) := by
  have hle : E.le (E.set n (w.heap.size, room)) := Env.set_le hn
  have old : ∀ id o', h id = some o' → id ≠ n := by
    intro id o' hid e
    obtain ⟨p, hp, _⟩ := hr.obj id o' hid
    rw [e, hn] at hp; cases hp
  constructor
  · intro id o' hid
    rw [hg] at hid
    by_cases e : id = n
    · rw [if_pos e] at hid; cases hid; subst e
      exact ⟨_, Env.set_same _ _ _, ho⟩
    · rw [if_neg e] at hid
      obtain ⟨p, hp, hrel⟩ := hr.obj id o' hid
      refine ⟨p, by rw [Env.set_ne _ _ e]; exact hp, AO.rel_heap ?_ (AO.rel_mono hle hrel)⟩
      have := AO.rel_lt hrel
      rw [Array.getElem?_push, if_neg (by omega)]
  · intro i j oi oj p q hi hj hp hq hpq
    rw [hg] at hi hj
    by_cases ei : i = n <;> by_cases ej : j = n
    · omega
    · rw [if_neg ej] at hj
      obtain ⟨p', hp', hrel⟩ := hr.obj j oj hj
      have hlt := AO.rel_lt hrel
      subst ei
      rw [Env.set_same] at hp
      rw [Env.set_ne _ _ ej, hp'] at hq
      cases hp; cases hq
      exact absurd hpq (by simp only; omega)
    · rw [if_neg ei] at hi
      obtain ⟨p', hp', hrel⟩ := hr.obj i oi hi
      have hlt := AO.rel_lt hrel
      subst ej
      rw [Env.set_same] at hq
      rw [Env.set_ne _ _ ei, hp'] at hp
      cases hp; cases hq
      exact absurd hpq (by simp only; omega)
    · rw [if_neg ei] at hi; rw [if_neg ej] at hj
      rw [Env.set_ne _ _ ei] at hp; rw [Env.set_ne _ _ ej] at hq
      exact hr.inj i j oi oj p q hi hj hp hq hpq

theorem Fr.alloc {G : Nat} {E : Env} {h h' : Nat → Option AO} {w : World} {n : Nat} {o : AO} {O : Obj} {room : Nat} (hn : E.blk n = none) (hg : ∀ j, h' j = if j = n then some o else h j) :
    Fr G E h w (E.set n (w.heap.size, room)) h' (w.alloc O) := by
  refine ⟨Env.set_le hn, rfl, rfl, rfl, by rw [World.size_alloc]; omega, fun k hk _ => Below.heap_alloc _ _ _ hk, ?_⟩
  intro k hk ⟨id, o', p, hG, hget, hp, hpk⟩
  rw [hg] at hget
  by_cases e : id = n
  · subst e
    rw [Env.set_same] at hp
    cases hp
    simp only at hpk; omega
  · rw [if_neg e] at hget; rw [Env.set_ne _ _ e] at hp
    exact ⟨id, o', p, hG, hget, hp, hpk⟩

/-- A block of the run's own is changed. -/
theorem HR.change {E : Env} {h h' : Nat → Option AO} {hp hp' : Array Obj} {id : Nat} {o o' : AO} {p : Nat × Nat} (hr : HR E h hp) (hg : h id = some o) (hb : E.blk id = some p) (hgt : ∀ j, h' j = if j = id then some o' else h j)
    (ho : o'.rel E p hp') (hs : ∀ k, k ≠ p.1 → hp'[k]? = hp[k]?) : HR E h' hp' := by
  constructor
  · intro i x hi
    rw [hgt] at hi
    by_cases e : i = id
    · rw [if_pos e] at hi; cases hi; subst e
      exact ⟨p, hb, ho⟩
    · rw [if_neg e] at hi
      obtain ⟨q, hq, hrel⟩ := hr.obj i x hi
      refine ⟨q, hq, AO.rel_heap (hs _ ?_) hrel⟩
      intro hpq
      exact e (hr.inj i id x o q p hi hg hq hb hpq)
  · intro i j oi oj a b hi hj ha hbb hab
    rw [hgt] at hi hj
    have hi' : ∃ x, h i = some x := by
      by_cases e : i = id
      · subst e; exact ⟨o, hg⟩
      · rw [if_neg e] at hi; exact ⟨_, hi⟩
    have hj' : ∃ x, h j = some x := by
      by_cases e : j = id
      · subst e; exact ⟨o, hg⟩
      · rw [if_neg e] at hj; exact ⟨_, hj⟩
    obtain ⟨x, hx⟩ := hi'
    obtain ⟨y, hy⟩ := hj'
    exact hr.inj i j x y a b hx hy ha hbb hab

theorem Fr.change {G : Nat} {E : Env} {h h' : Nat → Option AO} {w w' : World} {id : Nat} {o o' : AO} {p : Nat × Nat} (hG : G ≤ id) (hg : h id = some o) (hb : E.blk id = some p) (hgt : ∀ j, h' j = if j = id then some o' else h j)
    (hos : w'.os = w.os) (ht : w'.tape = w.tape) (hout : w'.output = w.output) (hsz : w'.heap.size = w.heap.size) (hs : ∀ k, k ≠ p.1 → w'.heap[k]? = w.heap[k]?) :
    Fr G E h w E h' w' := by
  refine ⟨Env.le.refl E, hos, ht, hout, by omega, fun k hk hn => hs k ?_, ?_⟩
  · intro e; exact hn ⟨id, o, p, hG, hg, hb, e.symm⟩
  · intro k hk ⟨i, x, q, hGi, hget, hq, hqk⟩
    rw [hgt] at hget
    by_cases e : i = id
    · subst e; exact ⟨i, o, q, hGi, hg, hq, hqk⟩
    · rw [if_neg e] at hget; exact ⟨i, x, q, hGi, hget, hq, hqk⟩

/-- A block gets another number (and may be changed): what an append does where there is room. -/
theorem HR.renew {E : Env} {h h1 h' : Nat → Option AO} {hp hp' : Array Obj} {id n : Nat} {o o' : AO} {p : Nat × Nat} (hr : HR E h hp) (hn : E.blk n = none) (hg : h id = some o) (hb : E.blk id = some p)
    (hg1 : ∀ j, h1 j = if j = id then none else h j) (hgt : ∀ j, h' j = if j = n then some o' else h1 j)
    (ho : o'.rel (E.set n p) p hp') (hs : ∀ k, k ≠ p.1 → hp'[k]? = hp[k]?) : HR (E.set n p) h' hp' := by
  have hle : E.le (E.set n p) := Env.set_le hn
  have hid : id ≠ n := by intro e; subst e; rw [hn] at hb; cases hb
  have look : ∀ i x, h' i = some x → (i = n ∧ x = o') ∨ (i ≠ n ∧ i ≠ id ∧ h i = some x) := by
    intro i x hi
    rw [hgt] at hi
    by_cases e : i = n
    · rw [if_pos e] at hi; cases hi; exact Or.inl ⟨e, rfl⟩
    · rw [if_neg e, hg1] at hi
      by_cases e2 : i = id
      · rw [if_pos e2] at hi; cases hi
      · rw [if_neg e2] at hi; exact Or.inr ⟨e, e2, hi⟩
  constructor
  · intro i x hi
    rcases look i x hi with ⟨rfl, rfl⟩ | ⟨e, e2, hi⟩
    · exact ⟨p, Env.set_same _ _ _, ho⟩
    · obtain ⟨q, hq, hrel⟩ := hr.obj i x hi
      refine ⟨q, by rw [Env.set_ne _ _ e]; exact hq, AO.rel_heap (hs _ ?_) (AO.rel_mono hle hrel)⟩
      intro hpq
      exact e2 (hr.inj i id x o q p hi hg hq hb hpq)
  · intro i j oi oj a b hi hj ha hbb hab
    rcases look i oi hi with ⟨rfl, rfl⟩ | ⟨ei, ei2, hi⟩ <;> rcases look j oj hj with ⟨rfl, rfl⟩ | ⟨ej, ej2, hj⟩
    · rfl
    · rw [Env.set_same] at ha; cases ha
      rw [Env.set_ne _ _ ej] at hbb
      exact absurd (hr.inj id j o oj p b hg hj hb hbb hab).symm ej2
    · rw [Env.set_same] at hbb; cases hbb
      rw [Env.set_ne _ _ ei] at ha
      exact absurd (hr.inj i id oi o a p hi hg ha hb hab) ei2
    · rw [Env.set_ne _ _ ei] at ha; rw [Env.set_ne _ _ ej] at hbb
      exact hr.inj i j oi oj a b hi hj ha hbb hab

theorem Fr.renew {G : Nat} {E : Env} {h h1 h' : Nat → Option AO} {w w' : World} {id n : Nat} {o o' : AO} {p : Nat × Nat} (hn : E.blk n = none) (hG : G ≤ id) (hg : h id = some o) (hb : E.blk id = some p)
    (hg1 : ∀ j, h1 j = if j = id then none else h j) (hgt : ∀ j, h' j = if j = n then some o' else h1 j)
    (hos : w'.os = w.os) (ht : w'.tape = w.tape) (hout : w'.output = w.output) (hsz : w'.heap.size = w.heap.size) (hs : ∀ k, k ≠ p.1 → w'.heap[k]? = w.heap[k]?) :
    Fr G E h w (E.set n p) h' w' := by
  refine ⟨Env.set_le hn, hos, ht, hout, by omega, fun k hk hnn => hs k ?_, ?_⟩
  · intro e; exact hnn ⟨id, o, p, hG, hg, hb, e.symm⟩
  · intro k hk ⟨i, x, q, hGi, hget, hq, hqk⟩
    rw [hgt] at hget
    by_cases e : i = n
    · subst e; rw [Env.set_same] at hq; cases hq
      exact ⟨id, o, p, hG, hg, hb, hqk⟩
    · rw [if_neg e, hg1] at hget
      by_cases e2 : i = id
      · rw [if_pos e2] at hget; cases hget
      · rw [if_neg e2] at hget; rw [Env.set_ne _ _ e] at hq
        exact ⟨i, x, q, hGi, hget, hq, hqk⟩

/-! ### What the program's text says: functions and types -/
structure TI where
  desc : TypeDesc
  info : TypeInfo

structure Fact where
  op : BinOp
  a : SI
  b : SI
  r : Bool

/-- A call that is known: of these arguments, this result; memory that was there stays. -/
structure Hook where
  f : Nat
  args : List SV
  res : SV

/-- A part of a run that is known: a call of these arguments, from this memory (its number of the next block): what it gives, the memory that it leaves. -/
structure Part where
  f : Nat
  args : List SV
  n : Nat
  old : List (Nat × AO)
  v : SV
  new : List (Nat × AO)
  n' : Nat

noncomputable def addH : List (Nat × AO) → Tr AO → Option (Tr AO)
  | [], t => some t
  | (k, o) :: r, t => match Tr.upd 48 t k (some o) with
    | none => none
    | some t' => addH r t'

noncomputable def delH : List (Nat × AO) → Tr AO → Option (Tr AO)
  | [], t => some t
  | (k, _) :: r, t => match Tr.upd 48 t k none with
    | none => none
    | some t' => delH r t'

theorem addH_get : ∀ {l : List (Nat × AO)} {t a t' a' : Tr AO} {f : Nat → Option AO}, addH l t = some t' → addH l a = some a' → (∀ id, t.get id = match a.get id with | some o => some o | none => f id) → ∀ id, t'.get id = match a'.get id with | some o => some o | none => f id
  | [], t, a, t', a', f, h1, h2, h => by
    simp only [addH, Option.some.injEq] at h1 h2
    subst h1; subst h2
    exact h
  | (k, o) :: r, t, a, t', a', f, h1, h2, h => by
    simp only [addH] at h1 h2
    split at h1
    · cases h1
    rename_i t1 hu1
    split at h2
    · cases h2
    rename_i a1 hu2
    refine addH_get h1 h2 (fun id => ?_)
    rw [Tr.get_upd _ _ _ _ _ hu1, Tr.get_upd _ _ _ _ _ hu2]
    by_cases e : id = k
    · rw [if_pos e, if_pos e]
    · rw [if_neg e, if_neg e]; exact h id

theorem delH_get : ∀ {l : List (Nat × AO)} {t a t' a' : Tr AO} {f : Nat → Option AO}, delH l t = some t' → addH l a = some a' → (∀ id, t.get id = match a.get id with | some _ => none | none => f id) → ∀ id, t'.get id = match a'.get id with | some _ => none | none => f id
  | [], t, a, t', a', f, h1, h2, h => by
    simp only [addH, delH, Option.some.injEq] at h1 h2
    subst h1; subst h2
    exact h
  | (k, o) :: r, t, a, t', a', f, h1, h2, h => by
    simp only [addH, delH] at h1 h2
    split at h1
    · cases h1
    rename_i t1 hu1
    split at h2
    · cases h2
    rename_i a1 hu2
    refine delH_get h1 h2 (fun id => ?_)
    rw [Tr.get_upd _ _ _ _ _ hu1, Tr.get_upd _ _ _ _ _ hu2]
    by_cases e : id = k
    · rw [if_pos e, if_pos e]
    · rw [if_neg e, if_neg e]; exact h id


noncomputable def memN : List Nat → Nat → Bool
  | [], _ => false
  | a :: r, t => match Nat.beq a t with
    | true => true
    | false => memN r t

theorem memN_mem {t : Nat} : ∀ {l : List Nat}, memN l t = true → t ∈ l
  | [], h => by cases h
  | a :: r, h => by
    simp only [memN] at h
    split at h
    · rename_i e; rw [Nat.eq_of_beq_eq_true e]; exact List.mem_cons_self
    · exact List.mem_cons_of_mem _ (memN_mem h)

/-- Of a slice that has a name: the number that is its length, the first of the numbers that it holds, and of how many of those one knows. -/
noncomputable def parX : List (Nat × Nat × Nat × Nat) → Nat → Option (Nat × Nat × Nat)
  | [], _ => none
  | (a, x) :: r, i => match Nat.beq a i with
    | true => some x
    | false => parX r i

structure Cx where
  ft : Tr Func
  tt : Tr TI
  et : Tr Nat               -- functions of Go's library that the model runs: of which kind
  sok : List Nat            -- structs that may be compared
  g0 : Nat                  -- package-level variables
  G : Nat                   -- below this number nothing is written
  facts : List Fact
  hooks : List Hook
  K : (Nat → Int) → (Nat → Value) → Prop      -- what is known of the numbers, and of the values, that have names
  base : Nat                -- so many blocks stay as they are in
  heap0 : Nat → Option Obj  -- this memory
  par : List (Nat × Nat × Nat × Nat)   -- slices that were there
  dfs : List Nat            -- functions that defer a call
  parts : List Part := []

/-- What a function of Go's library does that the model runs: 0: so many bytes; 1: the first such byte. -/
noncomputable def ExtOk (P : Program) (f k : Nat) : Prop :=
  match k with
  | 0 => ∀ (s : ByteArray) (c : Int) (w : World), (callFunc f #[.string s, .int .u8 c]).run P w = .ok (.value (.int .i64 (Lib.countByte s.data.toList c.toNat.toUInt8))) w
  | 1 => ∀ (s : ByteArray) (c : Int) (w : World), (callFunc f #[.string s, .int .u8 c]).run P w = .ok (.value (.int .i64 (Lib.indexByte s.data.toList c.toNat.toUInt8))) w
  | 2 => ∀ (x : Value) (w : World), (callFunc f #[x]).run P w = .ok (.value x) w
  | e + 3 => ∀ (n : Nat) (w : World), n ≤ 281474976710656 → ∃ cs : Array Value, (callFunc f #[.int .i64 n]).run P w = .ok (.value (.slice (some ⟨w.heap.size, 0, none⟩) n cs.size)) (w.drew.drew.alloc (.cells cs e))

noncomputable def ParOk (par : List (Nat × Nat × Nat × Nat)) (K : (Nat → Int) → (Nat → Value) → Prop) (base : Nat) (heap0 : Nat → Option Obj) : Prop :=
  ∀ i j e m, parX par i = some (j, e, m) → ∀ I Q, K I Q → ∃ b o n c cs et fz, Q i = .slice (some ⟨b, o, none⟩) n c ∧ (n : Int) = I j ∧ b < base ∧ heap0 b = some (.cells cs et fz) ∧
    ∀ k, k < m → k < n → cs[o + k]? = some (.int .i64 (I (e + k)))

noncomputable def FactsOk (F : List Fact) (I : Nat → Int) : Prop := ∀ f, f ∈ F → icmp f.op (f.a.den I) (f.b.den I) = f.r

/-- An abstract state: temporaries, memory, the next number of a block. -/
structure St where
  t : Tr SV
  h : Tr AO
  n : Nat

/-- What stays as it is. -/
structure Anc (C : Cx) (E : Env) (h : Nat → Option AO) (hp : Array Obj) : Prop where
  same : ∀ k, k < C.base → hp[k]? = C.heap0 k
  off : ∀ k, k < C.base → ¬ Img C.G E h k
  size : C.base ≤ hp.size

theorem Anc.step {C : Cx} {E E' : Env} {h h' : Nat → Option AO} {w w' : World} (a : Anc C E h w.heap) (f : Fr C.G E h w E' h' w') : Anc C E' h' w'.heap :=
  ⟨fun k hk => (f.same k (Nat.lt_of_lt_of_le hk a.size) (a.off k hk)).trans (a.same k hk), fun k hk hi => a.off k hk (f.img k (Nat.lt_of_lt_of_le hk a.size) hi), Nat.le_trans a.size f.size⟩

theorem Anc.sub {C : Cx} {E : Env} {h hs : Nat → Option AO} {hp : Array Obj} (a : Anc C E h hp) (k : ∀ id o, hs id = some o → h id = some o) : Anc C E hs hp :=
  ⟨a.same, fun j hj ⟨i, o, p, x, y, z, t⟩ => a.off j hj ⟨i, o, p, x, k i o y, z, t⟩, a.size⟩

structure SH (C : Cx) (E : Env) (h : Nat → Option AO) (n : Nat) (hp : Array Obj) : Prop where
  hr : HR E h hp
  fresh : ∀ id, n ≤ id → E.blk id = none
  glob : ∀ g, g < C.g0 → ∃ r, E.blk g = some (g, r)
  low : C.G ≤ n
  kn : FactsOk C.facts E.ints ∧ C.K E.ints E.opq ∧ C.g0 ≤ C.G
  anc : Anc C E h hp

theorem SH.facts {C : Cx} {E : Env} {h : Nat → Option AO} {n : Nat} {hp : Array Obj} (s : SH C E h n hp) : FactsOk C.facts E.ints := s.kn.1

structure SR (C : Cx) (d : List Deferred) (E : Env) (sz : Nat) (s : St) (a : Act) (w : World) : Prop where
  tm : ∀ k v, s.t.get k = some v → ∃ x, a.tmps[k]? = some x ∧ v.den E = some x
  sz : a.tmps.size = sz
  df : a.defers = d
  sh : SH C E s.h s.n w.heap

theorem SR.get {C : Cx} {d : List Deferred} {E : Env} {sz : Nat} {s : St} {a : Act} {w : World} (h : SR C d E sz s a w) {k : Nat} {v : SV} (hg : s.t.get k = some v) : v.den E = some (a.eval (.tmp k)) := by
  obtain ⟨x, hx, hv⟩ := h.tm k v hg
  rw [hv]; simp [Act.eval, hx]

noncomputable def getX (G : Nat) (t : Tr SV) : Operand → Option SV
  | .tmp k => t.get k
  | .const v => ofV v
  | .global g => match Nat.blt g G with
    | true => some (.ptr g 0)
    | false => none
  | .func f => some (.func (.func f) [] [])

theorem SR.getX {C : Cx} {d : List Deferred} {E : Env} {sz : Nat} {s : St} {a : Act} {w : World} (h : SR C d E sz s a w) {x : Operand} {v : SV} (hg : getX C.g0 s.t x = some v) : v.den E = some (a.eval x) := by
  cases x with
  | tmp k => exact h.get hg
  | const c => exact ofV_den E c v hg
  | func f => simp only [Xq.getX, Option.some.injEq] at hg; subst hg; simp [SV.den, denL, Act.eval]
  | global g =>
    simp only [Xq.getX] at hg
    cases hb : Nat.blt g C.g0 with
    | false => rw [hb] at hg; simp at hg
    | true =>
      rw [hb] at hg
      simp only [Option.some.injEq] at hg
      subst hg
      obtain ⟨r, hr⟩ := h.sh.glob g (by simpa [Nat.blt_eq] using hb)
      simp [SV.den, hr, Act.eval]

/-- What a step leaves. -/
structure Post (C : Cx) (E : Env) (h : Nat → Option AO) (n : Nat) (w : World) (E' : Env) (h' : Nat → Option AO) (n' : Nat) (w' : World) : Prop where
  sh : SH C E' h' n' w'.heap
  fr : Fr C.G E h w E' h' w'
  mono : n ≤ n'
  new : ∀ id o, h' id = some o → (∃ o0, h id = some o0) ∨ n ≤ id
  old : ∀ id, id < n → E'.blk id = E.blk id

theorem Post.refl {C : Cx} {E : Env} {h : Nat → Option AO} {n : Nat} {w : World} (s : SH C E h n w.heap) : Post C E h n w E h n w :=
  ⟨s, Fr.refl _ _ _ _, Nat.le_refl _, fun _ o k => Or.inl ⟨o, k⟩, fun _ _ => rfl⟩

theorem Post.trans {C : Cx} {E E1 E2 : Env} {h h1 h2 : Nat → Option AO} {n n1 n2 : Nat} {w w1 w2 : World} (a : Post C E h n w E1 h1 n1 w1) (b : Post C E1 h1 n1 w1 E2 h2 n2 w2) : Post C E h n w E2 h2 n2 w2 :=
  ⟨b.sh, a.fr.trans b.fr, Nat.le_trans a.mono b.mono, fun id o k => by
    rcases b.new id o k with ⟨o0, k0⟩ | k0
    · exact a.new id o0 k0
    · exact Or.inr (Nat.le_trans a.mono k0), fun id k => (b.old id (Nat.lt_of_lt_of_le k a.mono)).trans (a.old id k)⟩

/-- What is said of a part. -/
noncomputable def PartOk (P : Program) (C : Cx) (p : Part) : Prop :=
  ∃ hs hs', addH p.old .nil = some hs ∧ addH p.new .nil = some hs' ∧ ∀ (E : Env) (w : World) (xs : List Value), SH C E hs.get p.n w.heap → denL E p.args = some xs → ∀ R : Ending → World → Prop,
    (∀ E' x w', p.v.den E' = some x → Post C E hs.get p.n w E' hs'.get p.n' w' → R (.returned x) w') → Calls P p.f xs.toArray w R

structure Cx.Ok (C : Cx) (P : Program) : Prop where
  fn : ∀ f fn, C.ft.get f = some fn → P.funcs[f]? = some fn ∧ (fn.name == "runtime.NumGoroutine") = false
  ty : ∀ t i, C.tt.get t = some i → P.underlying t = some i.desc ∧ P.info? t = some i.info
  mixed : P.follows .mixedOrders = true
  par : ParOk C.par C.K C.base C.heap0
  ext : ∀ f k, C.et.get f = some k → ExtOk P f k
  sok : ∀ t, memN C.sok t = true → P.stoodInHeld t = false ∧ P.eqGuardType P.depth t = false
  hooks : ∀ hk ∈ C.hooks, ∀ (E : Env) xs, C.K E.ints E.opq → denL E hk.args = some xs → ∃ x, hk.res.den E = some x ∧ ∀ w, C.base ≤ w.heap.size → (∀ k, k < C.base → w.heap[k]? = C.heap0 k) → Calls P hk.f xs.toArray w fun e w' => e = .returned x ∧ Below w.heap.size w w'
  parts : ∀ p ∈ C.parts, PartOk P C p

theorem SH.drew {C : Cx} {E : Env} {h : Nat → Option AO} {n : Nat} {w : World} (s : SH C E h n w.heap) : Post C E h n w E h n { w with drawn := w.drawn + 1 } :=
  ⟨s, Fr.drew, Nat.le_refl _, fun _ o k => Or.inl ⟨o, k⟩, fun _ _ => rfl⟩

theorem Post.alloc {C : Cx} {E : Env} {h h' : Tr AO} {n f : Nat} {w : World} {o : AO} {O : Obj} {room : Nat} (s : SH C E h n w.heap) (hu : Tr.upd f h n (some o) = some h')
    (ho : o.rel (E.set n (w.heap.size, room)) (w.heap.size, room) (w.heap.push O)) : Post C E h n w (E.set n (w.heap.size, room)) h' (n + 1) (w.alloc O) := by
  have hgt := Tr.get_upd _ _ _ _ _ hu
  refine ⟨⟨HR.alloc s.hr (s.fresh n (Nat.le_refl _)) hgt ho, ?_, ?_, by have := s.low; omega, s.kn, s.anc.step (Fr.alloc (s.fresh n (Nat.le_refl _)) hgt)⟩, Fr.alloc (s.fresh n (Nat.le_refl _)) hgt, Nat.le_succ n, ?_, fun id k => Env.set_ne _ _ (by omega)⟩
  · intro id hid
    rw [Env.set_ne _ _ (by omega)]
    exact s.fresh id (by omega)
  · intro g hg
    obtain ⟨r, hr⟩ := s.glob g hg
    exact ⟨r, by rw [Env.set_ne _ _ (by have := s.low; have := s.kn.2.2; omega)]; exact hr⟩
  · intro id o' k
    rw [hgt] at k
    by_cases e : id = n
    · exact Or.inr (by omega)
    · rw [if_neg e] at k; exact Or.inl ⟨o', k⟩

theorem Post.change {C : Cx} {E : Env} {h h' : Tr AO} {n f : Nat} {w w' : World} {id : Nat} {o o' : AO} {p : Nat × Nat} (s : SH C E h n w.heap) (hG : C.G ≤ id) (hg : h.get id = some o) (hb : E.blk id = some p)
    (hu : Tr.upd f h id (some o') = some h') (ho : o'.rel E p w'.heap) (hos : w'.os = w.os) (ht : w'.tape = w.tape) (hout : w'.output = w.output) (hsz : w'.heap.size = w.heap.size)
    (hs : ∀ k, k ≠ p.1 → w'.heap[k]? = w.heap[k]?) : Post C E h n w E h' n w' :=
  ⟨⟨HR.change s.hr hg hb (Tr.get_upd _ _ _ _ _ hu) ho hs, s.fresh, s.glob, s.low, s.kn, s.anc.step (Fr.change hG hg hb (Tr.get_upd _ _ _ _ _ hu) hos ht hout hsz hs)⟩, Fr.change hG hg hb (Tr.get_upd _ _ _ _ _ hu) hos ht hout hsz hs, Nat.le_refl _, fun i x k => by
    rw [Tr.get_upd _ _ _ _ _ hu] at k
    by_cases e : i = id
    · subst e; exact Or.inl ⟨o, hg⟩
    · rw [if_neg e] at k; exact Or.inl ⟨x, k⟩, fun _ _ => rfl⟩

theorem Post.renew {C : Cx} {E : Env} {h h1 h' : Tr AO} {n f g : Nat} {w w' : World} {id : Nat} {o o' : AO} {p : Nat × Nat} (s : SH C E h n w.heap) (hG : C.G ≤ id) (hg : h.get id = some o) (hb : E.blk id = some p)
    (hu1 : Tr.upd f h id none = some h1) (hu : Tr.upd g h1 n (some o') = some h') (ho : o'.rel (E.set n p) p w'.heap) (hos : w'.os = w.os) (ht : w'.tape = w.tape) (hout : w'.output = w.output)
    (hsz : w'.heap.size = w.heap.size) (hs : ∀ k, k ≠ p.1 → w'.heap[k]? = w.heap[k]?) : Post C E h n w (E.set n p) h' (n + 1) w' := by
  refine ⟨⟨HR.renew s.hr (s.fresh n (Nat.le_refl _)) hg hb (Tr.get_upd _ _ _ _ _ hu1) (Tr.get_upd _ _ _ _ _ hu) ho hs, ?_, ?_, by have := s.low; omega, s.kn, s.anc.step (Fr.renew (s.fresh n (Nat.le_refl _)) hG hg hb (Tr.get_upd _ _ _ _ _ hu1) (Tr.get_upd _ _ _ _ _ hu) hos ht hout hsz hs)⟩, Fr.renew (s.fresh n (Nat.le_refl _)) hG hg hb (Tr.get_upd _ _ _ _ _ hu1) (Tr.get_upd _ _ _ _ _ hu) hos ht hout hsz hs,
    Nat.le_succ n, ?_, fun id k => Env.set_ne _ _ (by omega)⟩
  · intro i hi
    rw [Env.set_ne _ _ (by omega)]
    exact s.fresh i (by omega)
  · intro i hi
    obtain ⟨r, hr⟩ := s.glob i hi
    exact ⟨r, by rw [Env.set_ne _ _ (by have := s.low; have := s.kn.2.2; omega)]; exact hr⟩
  · intro i x k
    rw [Tr.get_upd _ _ _ _ _ hu] at k
    by_cases e : i = n
    · exact Or.inr (by omega)
    · rw [if_neg e, Tr.get_upd _ _ _ _ _ hu1] at k
      by_cases e2 : i = id
      · rw [if_pos e2] at k; cases k
      · rw [if_neg e2] at k; exact Or.inl ⟨x, k⟩

/-- None of the run's blocks stands there. -/
noncomputable def Off (E : Env) (h : Nat → Option AO) (r : Nat) : Prop := ∀ id o p, h id = some o → E.blk id = some p → p.1 ≠ r

theorem Off.step {C : Cx} {E E' : Env} {h h' : Nat → Option AO} {n n' r : Nat} {w w' : World} (s : SH C E h n w.heap) (hp : Post C E h n w E' h' n' w') (hr : r < w.heap.size) (a : Off E h r) : Off E' h' r ∧ w'.heap[r]? = w.heap[r]? := by
  have hni : ¬ Img C.G E h r := fun ⟨id, o, p, _, x, y, z⟩ => a id o p x y z
  refine ⟨fun id o p hid hbl e => ?_, hp.fr.same r hr hni⟩
  rcases hp.new id o hid with ⟨o0, h0⟩ | hge
  · obtain ⟨q, hq, _⟩ := s.hr.obj id o0 h0
    have hpq : q = p := by rw [hp.fr.le.blk id q hq] at hbl; exact Option.some.inj hbl
    subst hpq
    exact a id o0 q h0 hq e
  · exact hni (hp.fr.img r hr ⟨id, o, p, Nat.le_trans s.low hge, hid, hbl, e⟩)

theorem Off.fresh {C : Cx} {E : Env} {h : Nat → Option AO} {n : Nat} {hp : Array Obj} (s : SH C E h n hp) {r : Nat} (hr : hp.size ≤ r) : Off E h r := fun id o p hid hbl e => by
  obtain ⟨q, hq, hrel⟩ := s.hr.obj id o hid
  rw [hbl] at hq
  cases hq
  have := AO.rel_lt hrel
  omega

/-- A block that is none of the run's turns into whatever. -/
theorem Post.shut {C : Cx} {E E' : Env} {h h' : Nat → Option AO} {n n' r : Nat} {w w' w2 : World} (hp : Post C E h n w E' h' n' w') (hb : C.base ≤ w.heap.size) (hlo : w.heap.size ≤ r) (hoff : Off E' h' r) (hos : w2.os = w'.os) (ht : w2.tape = w'.tape) (hout : w2.output = w'.output)
    (hsz : w2.heap.size = w'.heap.size) (hs : ∀ k, k ≠ r → w2.heap[k]? = w'.heap[k]?) : Post C E h n w E' h' n' w2 := by
  refine ⟨⟨⟨fun id o hid => ?_, hp.sh.hr.inj⟩, hp.sh.fresh, hp.sh.glob, hp.sh.low, hp.sh.kn, ⟨fun k hk => ?_, hp.sh.anc.off, ?_⟩⟩, ⟨hp.fr.le, hos.trans hp.fr.os, ht.trans hp.fr.tape, hout.trans hp.fr.output, ?_, fun k hk hn => ?_, hp.fr.img⟩, hp.mono, hp.new, hp.old⟩
  · obtain ⟨p, hp1, hrel⟩ := hp.sh.hr.obj id o hid
    exact ⟨p, hp1, AO.rel_heap (hs _ (hoff id o p hid hp1)) hrel⟩
  · rw [hs k (by omega)]; exact hp.sh.anc.same k hk
  · rw [hsz]; exact hp.sh.anc.size
  · rw [hsz]; exact hp.fr.size
  · rw [hs k (by omega)]; exact hp.fr.same k hk hn

theorem Fr.sub {G : Nat} {E E' : Env} {h H hs : Nat → Option AO} {w w' : World} (f : Fr G E h w E' H w') (k : ∀ id o, hs id = some o → H id = some o) : Fr G E h w E' hs w' :=
  ⟨f.le, f.os, f.tape, f.output, f.size, f.same, fun j hj ⟨i, o, p, a, b, c, d⟩ => f.img j hj ⟨i, o, p, a, k i o b, c, d⟩⟩

theorem HR.sub {E : Env} {H hs : Nat → Option AO} {hp : Array Obj} (f : HR E H hp) (k : ∀ id o, hs id = some o → H id = some o) : HR E hs hp :=
  ⟨fun i o h => f.obj i o (k i o h), fun i j o o' p q a b => f.inj i j o o' p q (k i o a) (k j o' b)⟩

theorem SH.sub {C : Cx} {E : Env} {h hs : Nat → Option AO} {n : Nat} {hp : Array Obj} (s : SH C E h n hp) (k : ∀ id o, hs id = some o → h id = some o) : SH C E hs n hp :=
  ⟨s.hr.sub k, s.fresh, s.glob, s.low, s.kn, s.anc.sub k⟩

/-- One block is not the run's any more. -/
theorem Post.drop {C : Cx} {E : Env} {h h1 : Tr AO} {n f k : Nat} {w : World} (s : SH C E h n w.heap) (hu : Tr.upd f h k none = some h1) : Post C E h n w E h1 n w := by
  have hg := Tr.get_upd _ _ _ _ _ hu
  have sub : ∀ id o, h1.get id = some o → h.get id = some o := fun id o e => by
    rw [hg] at e
    by_cases c : id = k
    · rw [if_pos c] at e; cases e
    · rw [if_neg c] at e; exact e
  exact ⟨s.sub sub, (Fr.refl _ _ _ _).sub sub, Nat.le_refl _, fun id o e => Or.inl ⟨o, sub id o e⟩, fun _ _ => rfl⟩

/-- A block that was the run's at the beginning, and is none now, turns into whatever. -/
theorem Post.turn {C : Cx} {E E' : Env} {h h' : Nat → Option AO} {n n' r : Nat} {w w' w2 : World} (hp : Post C E h n w E' h' n' w') (hanc : Anc C E h w.heap) (him : Img C.G E h r) (hoff : Off E' h' r) (hos : w2.os = w'.os) (ht : w2.tape = w'.tape) (hout : w2.output = w'.output)
    (hsz : w2.heap.size = w'.heap.size) (hs : ∀ k, k ≠ r → w2.heap[k]? = w'.heap[k]?) : Post C E h n w E' h' n' w2 := by
  refine ⟨⟨⟨fun id o hid => ?_, hp.sh.hr.inj⟩, hp.sh.fresh, hp.sh.glob, hp.sh.low, hp.sh.kn, ⟨fun k hk => ?_, hp.sh.anc.off, ?_⟩⟩, ⟨hp.fr.le, hos.trans hp.fr.os, ht.trans hp.fr.tape, hout.trans hp.fr.output, ?_, fun k hk hn => ?_, hp.fr.img⟩, hp.mono, hp.new, hp.old⟩
  · obtain ⟨p, hp1, hrel⟩ := hp.sh.hr.obj id o hid
    exact ⟨p, hp1, AO.rel_heap (hs _ (hoff id o p hid hp1)) hrel⟩
  · rw [hs k (fun e => hanc.off k hk (e ▸ him))]; exact hp.sh.anc.same k hk
  · rw [hsz]; exact hp.sh.anc.size
  · rw [hsz]; exact hp.fr.size
  · rw [hs k (fun e => hn (e ▸ him))]; exact hp.fr.same k hk hn

/-- Such a block is the run's again. -/
theorem Post.put {C : Cx} {E E' : Env} {h : Nat → Option AO} {h' h4 : Tr AO} {n n' f k : Nat} {w w' : World} {p : Nat × Nat} {o o0 : AO} (hp : Post C E h n w E' h' n' w') (hanc : Anc C E h w.heap) (him : Img C.G E h p.1) (h0 : h k = some o0) (hb : E'.blk k = some p) (hoff : Off E' h' p.1)
    (hu : Tr.upd f h' k (some o) = some h4) (ho : o.rel E' p w'.heap) : Post C E h n w E' h4 n' w' := by
  have hg := Tr.get_upd _ _ _ _ _ hu
  refine ⟨⟨⟨fun id x hid => ?_, fun i j oi oj pi pj hi hj hbi hbj e => ?_⟩, hp.sh.fresh, hp.sh.glob, hp.sh.low, hp.sh.kn, ⟨hp.sh.anc.same, ?_, hp.sh.anc.size⟩⟩, ⟨hp.fr.le, hp.fr.os, hp.fr.tape, hp.fr.output, hp.fr.size, hp.fr.same, ?_⟩, hp.mono, fun id x hid => ?_, hp.old⟩
  · rw [hg] at hid
    by_cases c : id = k
    · rw [if_pos c] at hid; cases hid; subst c; exact ⟨p, hb, ho⟩
    · rw [if_neg c] at hid; exact hp.sh.hr.obj id x hid
  · rw [hg] at hi hj
    by_cases ci : i = k
    · by_cases cj : j = k
      · rw [ci, cj]
      · rw [if_neg cj] at hj
        subst ci
        rw [hb] at hbi; cases hbi
        exact absurd e.symm (hoff j oj pj hj hbj)
    · rw [if_neg ci] at hi
      by_cases cj : j = k
      · subst cj
        rw [hb] at hbj; cases hbj
        exact absurd e (hoff i oi pi hi hbi)
      · rw [if_neg cj] at hj
        exact hp.sh.hr.inj i j oi oj pi pj hi hj hbi hbj e
  · rintro j hj ⟨id, x, q, hG, hid, hq, e⟩
    rw [hg] at hid
    by_cases c : id = k
    · subst c
      rw [hb] at hq; cases hq
      subst e
      exact hanc.off _ hj him
    · rw [if_neg c] at hid
      exact hp.sh.anc.off j hj ⟨id, x, q, hG, hid, hq, e⟩
  · rintro j hj ⟨id, x, q, hG, hid, hq, e⟩
    rw [hg] at hid
    by_cases c : id = k
    · subst c
      rw [hb] at hq; cases hq
      subst e
      exact him
    · rw [if_neg c] at hid
      exact hp.fr.img j hj ⟨id, x, q, hG, hid, hq, e⟩
  · rw [hg] at hid
    by_cases c : id = k
    · subst c; exact Or.inl ⟨o0, h0⟩
    · rw [if_neg c] at hid; exact hp.new id x hid

/-- What changes nothing of what is there. -/
theorem Post.below_in {C : Cx} {E : Env} {h : Nat → Option AO} {n : Nat} {w w' : World} (s : SH C E h n w.heap) (b : Below w.heap.size w w') : Post C E h n w E h n w' := by
  have hk : ∀ k, k < w.heap.size → w'.heap[k]? = w.heap[k]? := b.block
  refine ⟨⟨⟨fun id o hg => ?_, s.hr.inj⟩, s.fresh, s.glob, s.low, s.kn, s.anc.step (show Fr C.G E h w E h w' from ⟨Env.le.refl E, b.os, b.tape, b.output, b.size, fun k hlt _ => hk k hlt, fun _ _ h => h⟩)⟩, ⟨Env.le.refl E, b.os, b.tape, b.output, b.size, fun k hlt _ => hk k hlt, fun _ _ h => h⟩, Nat.le_refl _, fun _ o k => Or.inl ⟨o, k⟩, fun _ _ => rfl⟩
  obtain ⟨p, hp, hrel⟩ := s.hr.obj id o hg
  exact ⟨p, hp, AO.rel_heap (hk _ (AO.rel_lt hrel)) hrel⟩

theorem SH.obj {C : Cx} {E : Env} {h : Nat → Option AO} {n : Nat} {hp : Array Obj} (s : SH C E h n hp) {id : Nat} {o : AO} (hg : h id = some o) : ∃ p, E.blk id = some p ∧ o.rel E p hp := s.hr.obj id o hg

/-- Temporaries stay as they are while more becomes known. -/
theorem tm_mono {E E' : Env} (h : E.le E') {t : Tr SV} {tmps : Array Value} (k : ∀ i v, t.get i = some v → ∃ x, tmps[i]? = some x ∧ v.den E = some x) :
    ∀ i v, t.get i = some v → ∃ x, tmps[i]? = some x ∧ v.den E' = some x :=
  fun i v hv => let ⟨x, a, b⟩ := k i v hv; ⟨x, a, SV.den_mono h _ _ b⟩

theorem tm_put {E : Env} {f : Nat} {t t' : Tr SV} {tmps : Array Value} {d : Nat} {v : SV} {x : Value} (k : ∀ i v, t.get i = some v → ∃ x, tmps[i]? = some x ∧ v.den E = some x) (hu : Tr.upd f t d (some v) = some t')
    (hd : d < tmps.size) (hv : v.den E = some x) : ∀ i u, t'.get i = some u → ∃ y, (tmps.setIfInBounds d x)[i]? = some y ∧ u.den E = some y := by
  intro i u hi
  rw [Tr.get_upd f t d (some v) t' hu] at hi
  by_cases e : i = d
  · rw [if_pos e] at hi; cases hi; subst e
    exact ⟨x, by simp [hd], hv⟩
  · rw [if_neg e] at hi
    obtain ⟨y, hy, hyd⟩ := k i u hi
    exact ⟨y, by rw [Array.getElem?_setIfInBounds_ne (by omega)]; exact hy, hyd⟩
/-! ### A part of memory is run on: the rest stays -/
theorem frame {C : Cx} {E E' : Env} {H hs hs' : Nat → Option AO} {n n' : Nat} {w w' : World} (hH : HR E H w.heap) (hsub : ∀ id o, hs id = some o → H id = some o) (hp : Post C E hs n w E' hs' n' w')
    (hfresh : ∀ id, n ≤ id → E.blk id = none) (hlow : C.G ≤ n) :
    HR E' (fun id => match hs' id with | some o => some o | none => match hs id with | some _ => none | none => H id) w'.heap ∧
    Fr C.G E H w E' (fun id => match hs' id with | some o => some o | none => match hs id with | some _ => none | none => H id) w' := by
  have look : ∀ id o, (match hs' id with | some o => some o | none => match hs id with | some _ => none | none => H id) = some o → hs' id = some o ∨ (hs' id = none ∧ hs id = none ∧ H id = some o) := by
    intro id o h
    split at h
    · rename_i x hx; exact Or.inl (hx.trans h)
    · rename_i hx
      split at h
      · cases h
      · rename_i hy; exact Or.inr ⟨hx, hy, h⟩
  have notImg : ∀ id o p, hs id = none → H id = some o → E.blk id = some p → ¬ Img C.G E hs p.1 := by
    intro id o p h1 h2 h3 ⟨i0, o0, q, _, g2, g3, g4⟩
    have := hH.inj i0 id o0 o q p (hsub i0 o0 g2) h2 g3 h3 g4
    subst this
    rw [h1] at g2; cases g2
  refine ⟨⟨?_, ?_⟩, ?_⟩
  · intro id o h
    rcases look id o h with h | ⟨h1, h2, h3⟩
    · exact hp.sh.hr.obj id o h
    · obtain ⟨p, hpb, hrel⟩ := hH.obj id o h3
      exact ⟨p, hp.fr.le.blk _ _ hpb, AO.rel_heap (hp.fr.same p.1 (AO.rel_lt hrel) (notImg id o p h2 h3 hpb)) (AO.rel_mono hp.fr.le hrel)⟩
  · have key : ∀ i j oi oj p q, hs' i = some oi → (hs' j = none ∧ hs j = none ∧ H j = some oj) → E'.blk i = some p → E'.blk j = some q → p.1 = q.1 → i = j := by
      intro i j oi oj p q hi ⟨hj1, hj2, hj3⟩ hpi hqj hpq
      obtain ⟨q', hq', hrel⟩ := hH.obj j oj hj3
      have hqq := hp.fr.le.blk _ _ hq'
      rw [hqj] at hqq
      cases hqq
      rcases hp.new i oi hi with ⟨o0, ho0⟩ | hni
      · obtain ⟨p', hp', _⟩ := hH.obj i o0 (hsub i o0 ho0)
        have hpp := hp.fr.le.blk _ _ hp'
        rw [hpi] at hpp
        cases hpp
        exact hH.inj i j o0 oj p q (hsub i o0 ho0) hj3 hp' hq' hpq
      · have hlt := AO.rel_lt hrel
        have himg : Img C.G E' hs' p.1 := ⟨i, oi, p, Nat.le_trans hlow hni, hi, hpi, rfl⟩
        have := hp.fr.img p.1 (by omega) himg
        rw [hpq] at this
        exact absurd this (notImg j oj q hj2 hj3 hq')
    intro i j oi oj p q hi hj hpi hqj hpq
    rcases look i oi hi with hi | hi <;> rcases look j oj hj with hj | hj
    · exact hp.sh.hr.inj i j oi oj p q hi hj hpi hqj hpq
    · exact key i j oi oj p q hi hj hpi hqj hpq
    · exact (key j i oj oi q p hj hi hqj hpi hpq.symm).symm
    · obtain ⟨p', hp', _⟩ := hH.obj i oi hi.2.2
      obtain ⟨q', hq', _⟩ := hH.obj j oj hj.2.2
      have h1 := hp.fr.le.blk _ _ hp'
      have h2 := hp.fr.le.blk _ _ hq'
      rw [hpi] at h1; rw [hqj] at h2
      cases h1; cases h2
      exact hH.inj i j oi oj p q hi.2.2 hj.2.2 hp' hq' hpq
  · have sub : ∀ k, Img C.G E hs k → Img C.G E H k := fun k ⟨i, o, p, a, b, c, d⟩ => ⟨i, o, p, a, hsub i o b, c, d⟩
    refine ⟨hp.fr.le, hp.fr.os, hp.fr.tape, hp.fr.output, hp.fr.size, fun k hk hn => hp.fr.same k hk (fun h => hn (sub k h)), ?_⟩
    rintro k hk ⟨id, o, p, hG, hid, hb, hpk⟩
    rcases look id o hid with h | ⟨h1, h2, h3⟩
    · exact sub k (hp.fr.img k hk ⟨id, o, p, hG, h, hb, hpk⟩)
    · obtain ⟨p', hp', _⟩ := hH.obj id o h3
      have := hp.fr.le.blk _ _ hp'
      rw [hb] at this
      cases this
      exact ⟨id, o, p, hG, h3, hp', hpk⟩

theorem Post.sub {C : Cx} {E E' : Env} {h h' hs : Nat → Option AO} {n n' : Nat} {w w' : World} (p : Post C E h n w E' h' n' w') (k : ∀ id o, hs id = some o → h' id = some o) : Post C E h n w E' hs n' w' :=
  ⟨p.sh.sub k, p.fr.sub k, p.mono, fun id o e => p.new id o (k id o e), p.old⟩

/-- A part of memory is run on: the rest is there again. -/
theorem Post.framed {C : Cx} {E E' : Env} {h hs hs' h1 h2 : Tr AO} {old new : List (Nat × AO)} {n n' : Nat} {w w' : World} (s : SH C E h n w.heap) (e1 : addH old .nil = some hs) (e2 : addH new .nil = some hs') (hsub : ∀ id o, hs.get id = some o → h.get id = some o) (p : Post C E hs n w E' hs' n' w')
    (d1 : delH old h = some h1) (d2 : addH new h1 = some h2) : Post C E h n w E' h2 n' w' := by
  obtain ⟨f1, f2⟩ := frame s.hr hsub p s.fresh s.low
  have g1 := delH_get (f := h.get) d1 e1 (fun id => by rw [Tr.get_nil])
  have g2 := addH_get (f := h1.get) d2 e2 (fun id => by rw [Tr.get_nil])
  have hg : h2.get = fun id => match hs'.get id with | some o => some o | none => match hs.get id with | some _ => none | none => h.get id := by
    funext id
    rw [g2 id, g1 id]
  rw [← hg] at f1 f2
  refine ⟨⟨f1, p.sh.fresh, p.sh.glob, p.sh.low, p.sh.kn, s.anc.step f2⟩, f2, p.mono, fun id o hid => ?_, p.old⟩
  rw [hg] at hid
  simp only at hid
  split at hid
  · rename_i o1 h1
    rcases p.new id o1 h1 with ⟨o0, k⟩ | k
    · exact Or.inl ⟨o0, hsub id o0 k⟩
    · exact Or.inr k
  · split at hid
    · cases hid
    · exact Or.inl ⟨o, hid⟩
end Go.Xq
