/-
  Values of a program as plain data: one operation of a region, in a world.
-/
import Derived.Test.YteapohlamngkpaaDoorPn
namespace Go.Pv
open Go.RowKit
set_option linter.unusedVariables false

/-- Nobody but an operation behind writes the variable. -/
def vOk (od : Od) (i s : Nat) : List Oper → Nat → Bool
  | [], _ => true
  | o :: r, j => (match o.dst with
    | some d => match Nat.beq d s with
      | true => Nat.beq j i || od.pre j i
      | false => true
    | none => true) && vOk od i s r (Nat.succ j)

def cxR (ops : Array Oper) (od : Od) (i : Nat) : Operand → X → Bool
  | .const c, .c v => match ofV c with
    | some q => wkPV q v
    | none => false
  | .const c, .nl _ _ => match c with
    | .slice none 0 0 => true
    | _ => false
  | .func f, .c v => match v with
    | .func f' [] [] => Nat.beq f f'
    | _ => false
  | .global g, .g g' => Nat.beq g g'
  | .tmp d, .v s => Nat.beq d s && vOk od i s ops.toList 0
  | .tmp d, .t j => match ops[j]? with
    | some o => beqN o.dst (some d)
    | none => false
  | .tmp d, .vf s => Nat.beq d s && vOk od i s ops.toList 0
  | .tmp d, .tf j => match ops[j]? with
    | some o => beqN o.dst (some d)
    | none => false
  | _, _ => false

def chkS (C : Cx) (cx : Operand → X → Bool) (op : Op) : What → Bool
  | .q _ q => chkQ C cx op q
  | .a _ a => chkA C cx op a
  | .w _ w _ => chkW C cx op w

theorem vOk_ok {od : Od} {i s : Nat} : ∀ {l : List Oper} {j0 : Nat}, vOk od i s l j0 = true → ∀ j o, l[j]? = some o → o.dst = some s → j0 + j = i ∨ od.pre (j0 + j) i = true
  | [], j0, h, j, o, hj, hd => by simp at hj
  | x :: l, j0, h, 0, o, hj, hd => by
    simp at hj; subst hj
    simp only [vOk, hd, Bool.and_eq_true] at h
    have h1 := h.1
    rw [Nat.beq_refl] at h1
    simp only [Bool.or_eq_true] at h1
    exact h1.imp (fun e => Nat.eq_of_beq_eq_true e) (fun e => e)
  | x :: l, j0, h, j + 1, o, hj, hd => by
    simp only [vOk, Bool.and_eq_true] at h
    have := vOk_ok h.2 j o (by simpa using hj) hd
    rw [show Nat.succ j0 + j = j0 + (j + 1) by omega] at this
    exact this

/-- What a place holds, of whom that is known. -/
def tmRep (E : Env) (x : Value) : Tm → Prop
  | .val v => Rep E v x
  | _ => x = undef

theorem tmRep.mono {E E' : Env} (h : E.le E') {x : Value} : ∀ {t : Tm}, tmRep E x t → tmRep E' x t
  | .val _, k => Rep.mono h k
  | .no, k => k
  | .skip, k => k

/-- A region under way. -/
structure RR (C : Cx) (g : Rg) (ops : Array Oper) (sz na : Nat) (d : List Deferred) (E0 : Env) (s0 : Hs) (w0 : World) (L : List Step) (E : Env) (rs : RS) (a : Act) (w : World) : Prop where
  post : Post C s0.n s0.m E0 s0 w0 E (addL g (List.range na) rs.pd rs.s) w
  n0 : s0.n ≤ g.n0 ∧ g.n0 + na ≤ rs.s.n
  m0 : s0.m ≤ g.m0 ∧ g.m0 + na ≤ rs.s.m
  fr : ∀ s v, g.fr s = some v → (∀ j o, rs.tm j ≠ .no → ops[j]? = some o → o.dst ≠ some s) → ∃ x, a.tmps[s]? = some x ∧ Rep E v x
  tm : ∀ j o t, ops[j]? = some o → o.dst = some t → rs.tm j ≠ .no → ∃ x, a.tmps[t]? = some x ∧ tmRep E x (rs.tm j)
  dom : ∀ j, rs.tm j ≠ .no → ∃ o, ops[j]? = some o
  new : ∀ x ∈ L, ∀ r al, x.w = .a r al → r < na ∧ E.blk (g.n0 + r) = none ∧ (∀ l, E.tip (g.m0 + r) l = none) ∧ rs.pd r = none ∧ rs.s.H (g.n0 + r) = none ∧ rs.s.T (g.m0 + r) = none
  off : ∀ r nd, rs.pd r = some nd → r < na ∧ rs.s.H (g.n0 + r) = none ∧ rs.s.T (g.m0 + r) = none
  sz : a.tmps.size = sz
  df : a.defers = d

section
variable {C : Cx} {g : Rg} {ops : Array Oper} {sz na : Nat} {d : List Deferred} {E0 : Env} {s0 : Hs} {w0 : World}

theorem put_sz {a : Act} {dst : Option Tmp} {x : Value} : (a.put dst x).tmps.size = a.tmps.size := by cases dst <;> simp [Act.put]
theorem put_df {a : Act} {dst : Option Tmp} {x : Value} : (a.put dst x).defers = a.defers := by cases dst <;> rfl
theorem put_get {a : Act} {dst : Option Tmp} {x : Value} {t : Nat} (h : dst ≠ some t) : (a.put dst x).tmps[t]? = a.tmps[t]? := by
  cases dst with
  | none => rfl
  | some k => exact Array.getElem?_setIfInBounds_ne (fun e => h (by rw [e]))
theorem put_same {a : Act} {x : Value} {t : Nat} (h : t < a.tmps.size) : (a.put (some t) x).tmps[t]? = some x := by
  simp [Act.put, h]

/-- One more is done. -/
theorem RR.next {A B : List Step} {st : Step} {E : Env} {rs : RS} {a : Act} {w : World} (h : RR C g ops sz na d E0 s0 w0 (A ++ st :: B) E rs a w) {o : Oper} (ho : ops[st.i]? = some o)
    (hdst : ∀ (i j : Nat) (o o' : Oper) t, ops[i]? = some o → ops[j]? = some o' → o.dst = some t → o'.dst = some t → i = j) (hdsz : ∀ t, o.dst = some t → t < sz) (hno : rs.tm st.i = .no)
    {t : Tm} {u : Value} {E' : Env} {pd' : Nat → Option Nd} {s' : Hs} {w' : World} (ht : t ≠ .no) (hu : tmRep E' u t) (hle : E.le E')
    (hpost : Post C s0.n s0.m E0 s0 w0 E' (addL g (List.range na) pd' s') w') (hn : g.n0 + na ≤ s'.n) (hm : g.m0 + na ≤ s'.m)
    (hnew : ∀ x ∈ A ++ B, ∀ r al, x.w = .a r al → r < na ∧ E'.blk (g.n0 + r) = none ∧ (∀ l, E'.tip (g.m0 + r) l = none) ∧ pd' r = none ∧ s'.H (g.n0 + r) = none ∧ s'.T (g.m0 + r) = none)
    (hoff : ∀ r nd, pd' r = some nd → r < na ∧ s'.H (g.n0 + r) = none ∧ s'.T (g.m0 + r) = none) :
    RR C g ops sz na d E0 s0 w0 (A ++ B) E' ⟨tset rs.tm st.i t, pd', s'⟩ (a.put o.dst u) w' := by
  have tm1 : ∀ j, j ≠ st.i → tset rs.tm st.i t j = rs.tm j := fun j hj => tset_ne _ _ hj
  refine ⟨hpost, ⟨h.n0.1, hn⟩, ⟨h.m0.1, hm⟩, ?_, ?_, ?_, hnew, hoff, by rw [put_sz]; exact h.sz, by rw [put_df]; exact h.df⟩
  · intro s v hs hd
    have h1 : o.dst ≠ some s := hd st.i o (by show tset _ _ _ _ ≠ _; rw [tset_same]; exact ht) ho
    obtain ⟨x, e1, e2⟩ := h.fr s v hs (fun j oj hj hoj => hd j oj (by
      show tset _ _ _ _ ≠ _
      by_cases e : j = st.i
      · subst e; rw [tset_same]; exact ht
      · rw [tm1 j e]; exact hj) hoj)
    exact ⟨x, by rw [put_get h1]; exact e1, e2.mono hle⟩
  · intro j oj tj hoj hdj hj
    by_cases e : j = st.i
    · subst e
      rw [ho] at hoj; cases hoj
      refine ⟨u, ?_, ?_⟩
      · rw [hdj]; exact put_same (by rw [h.sz]; exact hdsz tj hdj)
      · show tmRep _ _ (tset _ _ _ _)
        rw [tset_same]; exact hu
    · have hj' : rs.tm j ≠ .no := by rw [← tm1 j e]; exact hj
      obtain ⟨x, e1, e2⟩ := h.tm j oj tj hoj hdj hj'
      refine ⟨x, ?_, ?_⟩
      · rw [put_get (fun hd => e (hdst j st.i oj o tj hoj ho hdj hd))]; exact e1
      · show tmRep _ _ (tset _ _ _ _)
        rw [tm1 j e]
        exact e2.mono hle
  · intro j hj
    by_cases e : j = st.i
    · subst e; exact ⟨o, ho⟩
    · exact h.dom j (by rw [← tm1 j e]; exact hj)

theorem range_mem {na r : Nat} : r ∈ List.range na ↔ r < na := List.mem_range

/-- What is added is less where less is added. -/
theorem addL_le {l : List Nat} {pd : Nat → Option Nd} {s : Hs} (hoff : ∀ r nd, pd r = some nd → r < na ∧ s.H (g.n0 + r) = none ∧ s.T (g.m0 + r) = none) : (addL g l pd s).le (addL g (List.range na) pd s) := by
  constructor
  · intro id o h
    rw [addL_H] at h ⊢
    split at h
    · rename_i hc
      split at h
      · rename_i ao hp
        obtain ⟨h1, h2, _⟩ := hoff _ _ hp
        rw [if_pos ⟨hc.1, range_mem.2 h1⟩]; exact h
      · rename_i hp
        split <;> exact h
    · split
      · rename_i hc hc'
        split
        · rename_i ao hp
          have := (hoff _ _ hp).2.1
          rw [show g.n0 + (id - g.n0) = id by omega, h] at this; cases this
        · exact h
      · exact h
  · intro id o h
    rw [addL_T] at h ⊢
    split at h
    · rename_i hc
      split at h
      · rename_i ao hp
        obtain ⟨h1, h2, _⟩ := hoff _ _ hp
        rw [if_pos ⟨hc.1, range_mem.2 h1⟩]; exact h
      · rename_i hp
        split <;> exact h
    · split
      · rename_i hc hc'
        split
        · rename_i ao hp
          have := (hoff _ _ hp).2.2
          rw [show g.m0 + (id - g.m0) = id by omega, h] at this; cases this
        · exact h
      · exact h

theorem addL_off {l : List Nat} {pd : Nat → Option Nd} {s : Hs} {r : Nat} (h : r ∉ l ∨ pd r = none) (hH : s.H (g.n0 + r) = none) (hT : s.T (g.m0 + r) = none) : (addL g l pd s).H (g.n0 + r) = none ∧ (addL g l pd s).T (g.m0 + r) = none := by
  rw [addL_H, addL_T, show g.n0 + r - g.n0 = r by omega, show g.m0 + r - g.m0 = r by omega]
  rcases h with h | h
  · rw [if_neg (fun e => h e.2), if_neg (fun e => h e.2)]; exact ⟨hH, hT⟩
  · rw [h]
    constructor
    · split <;> exact hH
    · split <;> exact hT

/-- A new thing is added. -/
theorem addL_new {pd : Nat → Option Nd} {s : Hs} {r : Nat} {nd : Nd} (hr : r < na) (hp : pd r = none) (hH : s.H (g.n0 + r) = none) (hT : s.T (g.m0 + r) = none) :
    add1 (g.n0 + r) (g.m0 + r) nd (addL g (List.range na) pd s) = addL g (List.range na) (hset pd r (some nd)) s := by
  have h1 := addL_s g (List.range na) pd s
  have h2 := addL_s g (List.range na) (hset pd r (some nd)) s
  have eH : (add1 (g.n0 + r) (g.m0 + r) nd (addL g (List.range na) pd s)).H = (addL g (List.range na) (hset pd r (some nd)) s).H := by
    funext id
    rw [addL_H]
    by_cases e : id = g.n0 + r
    · subst e
      rw [show g.n0 + r - g.n0 = r by omega, if_pos ⟨by omega, range_mem.2 hr⟩, hset_same]
      cases nd with
      | o ao => exact hset_same _ _ _
      | t n =>
        show (addL g (List.range na) pd s).H (g.n0 + r) = _
        exact ((addL_off (Or.inr hp) hH hT).1).trans hH.symm
      | z =>
        show (addL g (List.range na) pd s).H (g.n0 + r) = _
        exact ((addL_off (Or.inr hp) hH hT).1).trans hH.symm
    · have h3 : (add1 (g.n0 + r) (g.m0 + r) nd (addL g (List.range na) pd s)).H id = (addL g (List.range na) pd s).H id := by
        cases nd with
        | o ao => exact hset_ne _ _ e
        | t n => rfl
        | z => rfl
      rw [h3, addL_H]
      by_cases hc : g.n0 ≤ id ∧ id - g.n0 ∈ List.range na
      · rw [if_pos hc, if_pos hc, hset_ne _ _ (by omega)]
      · rw [if_neg hc, if_neg hc]
  have eT : (add1 (g.n0 + r) (g.m0 + r) nd (addL g (List.range na) pd s)).T = (addL g (List.range na) (hset pd r (some nd)) s).T := by
    funext id
    rw [addL_T]
    by_cases e : id = g.m0 + r
    · subst e
      rw [show g.m0 + r - g.m0 = r by omega, if_pos ⟨by omega, range_mem.2 hr⟩, hset_same]
      cases nd with
      | o ao =>
        show (addL g (List.range na) pd s).T (g.m0 + r) = _
        exact ((addL_off (Or.inr hp) hH hT).2).trans hT.symm
      | t n => exact hset_same _ _ _
      | z =>
        show (addL g (List.range na) pd s).T (g.m0 + r) = _
        exact ((addL_off (Or.inr hp) hH hT).2).trans hT.symm
    · have h3 : (add1 (g.n0 + r) (g.m0 + r) nd (addL g (List.range na) pd s)).T id = (addL g (List.range na) pd s).T id := by
        cases nd with
        | o ao => rfl
        | t n => exact hset_ne _ _ e
        | z => rfl
      rw [h3, addL_T]
      by_cases hc : g.m0 ≤ id ∧ id - g.m0 ∈ List.range na
      · rw [if_pos hc, if_pos hc, hset_ne _ _ (by omega)]
      · rw [if_neg hc, if_neg hc]
  have en : (add1 (g.n0 + r) (g.m0 + r) nd (addL g (List.range na) pd s)).n = (addL g (List.range na) (hset pd r (some nd)) s).n ∧ (add1 (g.n0 + r) (g.m0 + r) nd (addL g (List.range na) pd s)).m = (addL g (List.range na) (hset pd r (some nd)) s).m := by
    rw [h2.1, h2.2, ← h1.1, ← h1.2]
    cases nd <;> exact ⟨rfl, rfl⟩
  generalize add1 (g.n0 + r) (g.m0 + r) nd (addL g (List.range na) pd s) = X at *
  generalize addL g (List.range na) (hset pd r (some nd)) s = Y at *
  obtain ⟨a1, a2, a3, a4⟩ := X
  obtain ⟨b1, b2, b3, b4⟩ := Y
  simp only at eH eT en
  obtain ⟨e3, e4⟩ := en
  subst eH; subst eT; subst e3; subst e4
  rfl

variable (hC : C.Ok) {od : Od}

theorem RR.cx {L : List Step} {E : Env} {rs : RS} {a : Act} {w : World} (h : RR C g ops sz na d E0 s0 w0 L E rs a w) {st : Step} (hno : rs.tm st.i = .no) (hcl : ∀ j, rs.tm j ≠ .no → ∀ k, od.pre j k = true → rs.tm k ≠ .no) :
    (∀ x y v, cxR ops od st.i x y = true → lkR C g rs.tm y = some v → Rep E v (a.eval x)) := by
  intro x y v hx hy
  unfold cxR at hx
  split at hx
  · -- a value of the text
    rename_i c u
    split at hx
    · rename_i q hq
      simp only [lkR, Option.some.injEq] at hy
      subst hy
      exact wkPV_ok hx (ofV_rep E c q hq)
    · cases hx
  · rename_i c s1 r1
    split at hx
    · simp only [lkR, Option.some.injEq] at hy
      subst hy
      simp only [Rep]
      exact ⟨⟨none, 0, rfl, by simp, Or.inl trivial, fun q _ => Or.inl ⟨rfl, rfl⟩⟩, fun e he => (by cases he)⟩
    · cases hx
  · rename_i f u
    simp only [lkR, Option.some.injEq] at hy
    subst hy
    split at hx
    · have := Nat.eq_of_beq_eq_true hx
      subst this
      simp only [Rep]
      exact ⟨[], [], rfl, RepL.mk0, RepL.mk0⟩
    · cases hx
  · rename_i i j
    have := Nat.eq_of_beq_eq_true hx
    subst this
    simp only [lkR] at hy
    split at hy
    · rename_i cs hcs
      cases hy
      simp only [Rep]
      exact ⟨i, 0, rfl, h.post.sh.glob i cs hcs⟩
    · cases hy
  · rename_i t s1
    simp only [Bool.and_eq_true] at hx
    have := Nat.eq_of_beq_eq_true hx.1
    subst this
    obtain ⟨u, e1, e2⟩ := h.fr t v hy (fun j o hj ho hd => by
      rcases vOk_ok hx.2 j o (by simpa using ho) hd with e | e
      · rw [Nat.zero_add] at e; subst e; exact hj hno
      · rw [Nat.zero_add] at e; exact hcl j hj _ e hno)
    have : a.eval (.tmp t) = u := by simp [Act.eval, e1]
    rw [this]; exact e2
  · rename_i t j
    simp only [lkR] at hy
    split at hy
    · rename_i v' hv
      cases hy
      split at hx
      · rename_i o ho
        obtain ⟨u, e1, e2⟩ := h.tm j o t ho (beqN_eq hx) (by rw [hv]; simp)
        rw [hv] at e2
        have e2 : Rep E v u := e2
        have : a.eval (.tmp t) = u := by simp [Act.eval, e1]
        rw [this]; exact e2
      · cases hx
    · cases hy
  · rename_i t s1
    simp only [Bool.and_eq_true] at hx
    have := Nat.eq_of_beq_eq_true hx.1
    subst this
    simp only [lkR] at hy
    split at hy
    case h_2 => cases hy
    rename_i v' hv'
    cases hy
    obtain ⟨u, e1, e2⟩ := h.fr t v' hv' (fun j o hj ho hd => by
      rcases vOk_ok hx.2 j o (by simpa using ho) hd with e | e
      · rw [Nat.zero_add] at e; subst e; exact hj hno
      · rw [Nat.zero_add] at e; exact hcl j hj _ e hno)
    have : a.eval (.tmp t) = u := by simp [Act.eval, e1]
    rw [this]; exact fgt_ok e2
  · rename_i t j
    simp only [lkR] at hy
    split at hy
    · rename_i v' hv
      cases hy
      split at hx
      · rename_i o ho
        obtain ⟨u, e1, e2⟩ := h.tm j o t ho (beqN_eq hx) (by rw [hv]; simp)
        rw [hv] at e2
        have e2 : Rep E _ u := e2
        have : a.eval (.tmp t) = u := by simp [Act.eval, e1]
        rw [this]; exact fgt_ok e2
      · cases hx
    · cases hy
  · cases hx

include hC
set_option maxHeartbeats 1000000 in
theorem step_ok {ro : Option Nat} {A B : List Step} {st : Step} {E : Env} {rs : RS} {a : Act} {w : World} (h : RR C g ops sz na d E0 s0 w0 (A ++ st :: B) E rs a w) (hl : Lok od (A ++ st :: B)) (hwf : Wf od rs (A ++ st :: B)) {o : Oper} (ho : ops[st.i]? = some o)
    (hg : o.guard = st.g) (hgd : ∀ j b oj, st.g = some (j, b) → ops[j]? = some oj → oj.dst.isSome = true) (hk : chkS C (cxR ops od st.i) o.op st.w = true)
    (hdst : ∀ (i j : Nat) (o o' : Oper) t, ops[i]? = some o → ops[j]? = some o' → o.dst = some t → o'.dst = some t → i = j) (hdsz : ∀ t, o.dst = some t → t < sz)
    {K : RS → Prop} {kp : PV → Hs → Prop} (hx : stp C g st K kp rs) {KK : Act → World → Prop} {Q : Exit → Act → World → Prop}
    (hK : ∀ E' rs' a' w' t, K rs' → t ≠ .no → rs'.tm = tset rs.tm st.i t → RR C g ops sz na d E0 s0 w0 (A ++ B) E' rs' a' w' → KK a' w')
    (hQ : ∀ v s' E' w' x, kp v s' → Rep E' v x → Post C s0.n s0.m E0 s0 w0 E' s' w' → Q (.panic (panicOf x)) a w') :
    (Region.wanted o (yielded ops a.tmps) = true → o.wpIn (Fw ro) 0 C.P a w KK Q) ∧ (Region.wanted o (yielded ops a.tmps) = false → KK (a.put o.dst undef) w) := by
  have hno := hwf.no st (by simp)
  have hcx := h.cx (od := od) hno hwf.cl
  have hcc : ∀ c y v, cxR ops od st.i (.const c) y = true → lkR C g rs.tm y = some v → Rep E v c := fun c y v h1 h2 => hcx (.const c) y v h1 h2
  have hsub : ∀ y, y ∈ A ++ B → y ∈ A ++ st :: B := fun y hy => by
    rcases List.mem_append.1 hy with h | h
    · exact List.mem_append_left _ h
    · exact List.mem_append_right _ (List.mem_cons_of_mem _ h)
  have hnew0 : ∀ x ∈ A ++ B, ∀ r al, x.w = .a r al → r < na ∧ E.blk (g.n0 + r) = none ∧ (∀ l, E.tip (g.m0 + r) l = none) ∧ rs.pd r = none ∧ rs.s.H (g.n0 + r) = none ∧ rs.s.T (g.m0 + r) = none := fun x hx => h.new x (hsub x hx)
  have hs1 := addL_s g (List.range na) rs.pd rs.s
  unfold stp at hx
  rw [guardP_iff] at hx
  obtain ⟨b, hst, hx⟩ := hx
  have hwant : Region.wanted o (yielded ops a.tmps) = b := by
    unfold status at hst
    unfold Region.wanted
    rw [hg]
    cases hgg : st.g with
    | none => rw [hgg] at hst; cases hst; rfl
    | some p =>
      obtain ⟨j, c0⟩ := p
      rw [hgg] at hst
      simp only at hst ⊢
      have hj : rs.tm j ≠ .no := by
        intro e; rw [e] at hst; cases hst
      obtain ⟨oj, hoj⟩ := h.dom j hj
      have hds := hgd j c0 oj hgg hoj
      obtain ⟨tj, htj⟩ := Option.isSome_iff_exists.1 hds
      obtain ⟨x, e1, e2⟩ := h.tm j oj tj hoj htj hj
      split at hst
      · rename_i c hc
        cases hst
        rw [hc] at e2
        have e2 : x = .bool c := by simpa only [tmRep, Rep] using e2
        subst e2
        simp only [yielded, hoj, Option.bind_some, htj, e1]
        cases c <;> cases c0 <;> rfl
      · rename_i hc
        cases hst
        rw [hc] at e2
        have e2 : x = undef := e2
        subst e2
        simp only [yielded, hoj, Option.bind_some, htj, e1]
        rfl
      · cases hst
  refine ⟨fun hw => ?_, fun hw => ?_⟩
  · rw [hwant] at hw
    subst hw
    have hd : doS C g st.i K kp rs st.w := hx
    cases hwh : st.w with
    | q see q =>
      rw [hwh] at hd hk
      simp only [doS] at hd
      split at hd
      case h_2 => exact hd.elim
      rename_i ob v he
      obtain ⟨h1, h2⟩ := hd
      have hsh := h.post.sh.sub (addL_le h.off (l := see)) (by rw [(addL_s g see rs.pd rs.s).1, hs1.1]; exact Nat.le_refl _) (by rw [(addL_s g see rs.pd rs.s).2, hs1.2]; exact Nat.le_refl _)
      obtain ⟨u, hr, hrep⟩ := quiet_ok hC (ρ := a.eval) hsh (o := o) (fun x y v _ => hcx x y v) hcc hk he h1
      have nd : ∀ c, o.op ≠ .defer c := by
        intro c e
        simp only [chkS] at hk
        rw [e] at hk
        cases q <;> simp [chkQ, notDefer] at hk
      refine ⟨fun _ _ => trivial, ?_⟩
      rw [semFw nd, hr]
      exact hK E _ _ w (.val v) h2 (by simp) rfl (h.next ho hdst hdsz hno (t := .val v) (by simp) hrep (Env.le.refl E) h.post h.n0.2 h.m0.2 hnew0 h.off)
    | a r al =>
      rw [hwh] at hd hk
      simp only [doS] at hd
      split at hd
      case h_2 => exact hd.elim
      rename_i ob v ndw he
      obtain ⟨h1, h2⟩ := hd
      obtain ⟨hr, hb, htip, hpd, hH, hT⟩ := h.new st (by simp) r al hwh
      obtain ⟨u, E', w', hrun, hrep, hp, honly⟩ := alloc_ok hC (ρ := a.eval) (nn := s0.n) (mm := s0.m) h.post.sh (o := o) hb htip (fun ⟨l, e⟩ => by rw [(addL_off (Or.inr hpd) hH hT).2] at e; cases e) (by rw [hs1.1]; have := h.n0.2; omega) (by rw [hs1.2]; have := h.m0.2; omega)
        (by have := h.n0.1; omega) (by have := h.m0.1; omega) (fun x y v _ => hcx x y v) hcc hk he h1
      have nd : ∀ c, o.op ≠ .defer c := by intro c e; simp only [chkS] at hk; rw [e] at hk; simp [chkA] at hk
      refine ⟨fun _ _ => trivial, ?_⟩
      rw [semFw nd, hrun]
      rw [addL_new hr hpd hH hT] at hp
      have hrk := stepOk_rk (Lok.at hl) hwh
      refine hK E' _ _ w' (.val v) h2 (by simp) rfl (h.next ho hdst hdsz hno (t := .val v) (by simp) hrep hp.le (h.post.trans hp) h.n0.2 h.m0.2 (fun x hx r' al' hx' => ?_) (fun r' nd' hp' => ?_))
      · obtain ⟨g1, g2, g3, g4, g5, g6⟩ := hnew0 x hx r' al' hx'
        have hne : r' ≠ r := by
          intro e
          subst e
          have hxo : stepOk od x = true := by
            rcases List.mem_append.1 (hsub x hx) with hm | hm
            · obtain ⟨A1, A2, e2⟩ := List.append_of_mem (List.mem_append_left (st :: B) hm)
              rw [e2] at hl; exact Lok.at hl
            · obtain ⟨A1, A2, e2⟩ := List.append_of_mem (List.mem_append_right A hm)
              rw [e2] at hl; exact Lok.at hl
          exact Lok.ne hl x hx ((stepOk_rk hxo hx').symm.trans hrk)
        exact ⟨g1, by rw [honly.blk _ (by omega)]; exact g2, fun l => by rw [honly.tip _ _ (by omega)]; exact g3 l, by rw [hset_ne _ _ hne]; exact g4, g5, g6⟩
      · by_cases e : r' = r
        · subst e; exact ⟨hr, hH, hT⟩
        · rw [hset_ne _ _ e] at hp'
          exact h.off r' nd' hp'
    | w see wr re =>
      rw [hwh] at hd hk
      simp only [doS] at hd
      have hsn := addL_s g see rs.pd rs.s
      have hle := addL_le h.off (l := see)
      have hsh := h.post.sh.sub hle (by rw [hsn.1, hs1.1]; exact Nat.le_refl _) (by rw [hsn.2, hs1.2]; exact Nat.le_refl _)
      have hn2 := h.n0
      have hm2 := h.m0
      have frm : ∀ {E' : Env} {s' : Hs} {w' : World}, Post C (addL g see rs.pd rs.s).n (addL g see rs.pd rs.s).m E (addL g see rs.pd rs.s) w E' s' w' →
          Post C s0.n s0.m E0 s0 w0 E' ((addL g (List.range na) rs.pd rs.s).join (addL g see rs.pd rs.s) s') w' := by
        intro E' s' w' hp
        have hp' := Post.frame h.post.sh hle (by rw [hsn.1, hs1.1]) (by rw [hsn.2, hs1.2]) (by rw [hs1.1, hs1.2, ← hsn.1, ← hsn.2]; exact hp)
        exact h.post.trans (hp'.low (by rw [hs1.1]; omega) (by rw [hs1.2]; omega))
      refine writer_ok hC (a := a) (nn := (addL g see rs.pd rs.s).n) (mm := (addL g see rs.pd rs.s).m) hsh (Nat.le_refl _) (Nat.le_refl _) (fun x y v _ => hcx x y v) hk hd (fun v s' E' w' x hkr hrep hp => ?_) (fun v s' E' w' x hkr hrep hp => ?_)
      · obtain ⟨_, hKr⟩ := hkr
        have hmn := hp.mono
        rw [hsn.1, hsn.2] at hmn
        have offs : ∀ r, r < na → (r ∉ see ∨ rs.pd r = none) → rs.s.H (g.n0 + r) = none → rs.s.T (g.m0 + r) = none → s'.H (g.n0 + r) = none ∧ s'.T (g.m0 + r) = none := by
          intro r hr hsee hH hT
          obtain ⟨q1, q2⟩ := addL_off (g := g) (l := see) (pd := rs.pd) (s := rs.s) hsee hH hT
          constructor
          · cases hc : s'.H (g.n0 + r) with
            | none => rfl
            | some o' =>
              rcases hp.newb _ _ hc with ⟨o0, h0⟩ | h0
              · rw [q1] at h0; cases h0
              · rw [hsn.1] at h0; omega
          · cases hc : s'.T (g.m0 + r) with
            | none => rfl
            | some o' =>
              rcases hp.newt _ _ hc with ⟨o0, h0⟩ | h0
              · rw [q2] at h0; cases h0
              · rw [hsn.2] at h0; omega
        have hoff' : ∀ r nd, clrL see rs.pd r = some nd → r < na ∧ s'.H (g.n0 + r) = none ∧ s'.T (g.m0 + r) = none := by
          intro r nd hr
          rw [clrL_get] at hr
          split at hr
          · cases hr
          rename_i hsee
          obtain ⟨g1, g2, g3⟩ := h.off r nd hr
          exact ⟨g1, offs r g1 (Or.inl hsee) g2 g3⟩
        have hpost := frm hp
        have hsj : (addL g (List.range na) (clrL see rs.pd) s').le ((addL g (List.range na) rs.pd rs.s).join (addL g see rs.pd rs.s) s') := by
          constructor
          · intro id o' hid
            rw [addL_H] at hid
            have base : s'.H id = some o' → ((addL g (List.range na) rs.pd rs.s).join (addL g see rs.pd rs.s) s').H id = some o' := fun e => by simp [Hs.join, e]
            split at hid
            · rename_i hc
              split at hid
              · rename_i ao hpd
                cases hid
                have hpd0 := hpd
                rw [clrL_get] at hpd
                split at hpd
                · cases hpd
                rename_i hsee
                obtain ⟨g1, g2, g3⟩ := h.off _ _ hpd
                obtain ⟨_, g4, _⟩ := hoff' _ _ hpd0
                have hid : g.n0 + (id - g.n0) = id := by omega
                obtain ⟨q1, _⟩ := addL_off (g := g) (l := see) (pd := rs.pd) (s := rs.s) (Or.inl hsee) g2 g3
                rw [hid] at q1 g4
                simp only [Hs.join, g4, q1]
                rw [addL_H, if_pos hc, hpd]
              · exact base hid
            · exact base hid
          · intro id o' hid
            rw [addL_T] at hid
            have base : s'.T id = some o' → ((addL g (List.range na) rs.pd rs.s).join (addL g see rs.pd rs.s) s').T id = some o' := fun e => by simp [Hs.join, e]
            split at hid
            · rename_i hc
              split at hid
              · rename_i ao hpd
                cases hid
                have hpd0 := hpd
                rw [clrL_get] at hpd
                split at hpd
                · cases hpd
                rename_i hsee
                obtain ⟨g1, g2, g3⟩ := h.off _ _ hpd
                obtain ⟨_, _, g4⟩ := hoff' _ _ hpd0
                have hid : g.m0 + (id - g.m0) = id := by omega
                obtain ⟨_, q1⟩ := addL_off (g := g) (l := see) (pd := rs.pd) (s := rs.s) (Or.inl hsee) g2 g3
                rw [hid] at q1 g4
                simp only [Hs.join, g4, q1]
                rw [addL_T, if_pos hc, hpd]
              · exact base hid
            · exact base hid
        have hs2 := addL_s g (List.range na) (clrL see rs.pd) s'
        have hfin := hpost.sub hsj (by rw [hs2.1]; exact Nat.le_refl _) (by rw [hs2.2]; exact Nat.le_refl _)
        refine hK E' _ _ w' (.val v) hKr (by simp) rfl (h.next ho hdst hdsz hno (t := .val v) (by simp) hrep hp.le hfin (by omega) (by omega) (fun x hx r al hxa => ?_) hoff')
        obtain ⟨g1, g2, g3, g4, g5, g6⟩ := hnew0 x hx r al hxa
        obtain ⟨g7, g8⟩ := offs r g1 (Or.inr g4) g5 g6
        have q2 := (addL_off (g := g) (l := see) (pd := rs.pd) (s := rs.s) (Or.inr g4) g5 g6).2
        refine ⟨g1, ?_, fun l => ?_, ?_, g7, g8⟩
        · rw [hp.oldb _ (by rw [hsn.1]; omega)]; exact g2
        · rw [hp.oldt _ _ (by rw [hsn.2]; omega) q2]; exact g3 l
        · rw [clrL_get]; split
          · rfl
          · exact g4
      · -- a panic
        refine hQ v s' E' w' x hkr hrep ((frm hp).sub ⟨fun id o' e => by simp [Hs.join, e], fun p l e => by simp [Hs.join, e]⟩ (Nat.le_refl _) (Nat.le_refl _))
  · rw [hwant] at hw
    subst hw
    have hsk : K (rs.put st.i .skip) := hx
    exact hK E _ _ w .skip hsk (by simp) rfl (h.next ho hdst hdsz hno (t := .skip) (by simp) rfl (Env.le.refl E) h.post h.n0.2 h.m0.2 hnew0 h.off)
end
end Go.Pv
